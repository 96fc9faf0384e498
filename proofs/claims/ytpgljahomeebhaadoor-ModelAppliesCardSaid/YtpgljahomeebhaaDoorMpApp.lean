/-
  Plain regions of the laws of stage 16, each in one step: a struct's load, a box with a value, 's, a := model.Apply(..)' with the boxes of what it tells. No conditions.
-/
import Derived.Test.YtpgljahomeebhaaDoorMpGet2
import Derived.Test.YtpgljahomeebhaaDoorM6
namespace Go.Proofs.YtpgljahomeebhaaDoor.Md
open Go Go.RowKit Go.Lib
def zCM : Array Value := #[.int .i64 0, .int .i64 0, .string ⟨#[]⟩, .string ⟨#[]⟩, .int .u32 0, .int .i64 0, .bool false, .int .u64 0, .bool false, .int .u64 0, .int .u64 0, .bool false, .bool false, .int .i64 0, .int .i64 0, .bool false]
section
variable {ops : Array Oper} {Q : Exit → Act → World → Prop} {rest : List Oper} {a : Act} {w w' : World}
theorem wpList_val {o : Oper} {v : Value} (hg : o.guard = none) (hr : (execOp a.eval o).run Tryd.prog w = .ok (.value v) w') (h : wpList Tryd.prog ops Q rest (a.put o.dst v) w') : wpList Tryd.prog ops Q (o :: rest) a w :=
  wpList_plain hg fun _ hK => by
    unfold Oper.wp
    rw [hr]
    exact hK _ _ h
theorem wpList_calls {o : Oper} {f : FuncId} {args : Array Value} (hg : o.guard = none) (hr : (execOp a.eval o).run Tryd.prog w = .ok (.enter f args) w) (h : Calls Tryd.prog f args w fun e w' => ∃ v, e = .returned v ∧ wpList Tryd.prog ops Q rest (a.put o.dst v) w') : wpList Tryd.prog ops Q (o :: rest) a w :=
  wpList_plain hg fun _ hK => by
    unfold Oper.wp
    rw [hr, Oper.upon_enter]
    refine h.mono ?_
    rintro e w' ⟨v, rfl, hk⟩
    exact hK _ _ hk
theorem Blk.range {b : Nat} {t : TypeId} {cs : List Value} (h : Blk w b t cs) : w.rangeAt b 0 cs := fun j v hj => by
  have := h.cell hj
  rw [Nat.zero_add]; exact this
/-- A struct's load out of its box. -/
theorem loadS {o : Oper} {x : Operand} {b : Nat} {cs : List Value} (hg : o.guard = none) (ho : o.op = .load 25 x) (hx : a.eval x = .pointer (some ⟨b, 0, none⟩)) (hb : Blk w b 25 cs) (hl : cs.length = 3) (h : wpList Tryd.prog ops Q rest (a.put o.dst (.agg cs.toArray)) w) : wpList Tryd.prog ops Q (o :: rest) a w :=
  wpList_load_mid hg 25 x ho b 0 hx cs _ (Blk.range hb) Tryd.underlying25 rfl (by rw [hl]; kernel_rfl) h
theorem loadC {o : Oper} {x : Operand} {b : Nat} {cs : List Value} (hg : o.guard = none) (ho : o.op = .load 28 x) (hx : a.eval x = .pointer (some ⟨b, 0, none⟩)) (hb : Blk w b 28 cs) (hl : cs.length = 16) (h : wpList Tryd.prog ops Q rest (a.put o.dst (.agg cs.toArray)) w) : wpList Tryd.prog ops Q (o :: rest) a w :=
  wpList_load_mid hg 28 x ho b 0 hx cs _ (Blk.range hb) Tryd.underlying28 rfl (by rw [hl]; kernel_rfl) h
theorem wpList_stor {o : Oper} {x y : Operand} {ty : TypeId} {b : Nat} {cs cs' : List Value} (hg : o.guard = none) (hd : o.dst = none) (ho : o.op = .store ty x y) (hx : a.eval x = .pointer (some ⟨b, 0, none⟩)) (hy : a.eval y = .agg cs.toArray) (hb : Blk w b ty cs') (hl : cs'.length = cs.length) (hi : (Tryd.prog.info? ty).map (·.size) = some cs.length) (h1 : cs.all (·.oneCell') = true)
    (h : wpList Tryd.prog ops Q rest a (w.setCells b 0 cs)) : wpList Tryd.prog ops Q (o :: rest) a w := by
  refine wpList_store_mid hg ty x y ho b 0 cs.toArray hx hy (Blk.there hb (by simp [hl])) (by simpa using hi) (ones h1) ?_
  rw [hd]
  exact h
/-- A command in a box of its own. -/
theorem newT {w0 : World} {bs : List (Nat × TypeId × List Value)} {rs : List (Value × List It)} {oL oS : Oper} {dL : Nat} {y : Operand} {cs : List Value} (hB : Bxr w0 bs rs w) (gL : oL.guard = none) (tL : oL.dst = some dL) (pL : oL.op = .alloc 28) (gS : oS.guard = none) (tS : oS.dst = none) (pS : oS.op = .store 28 (.tmp dL) y)
    (hy : a.eval y = .agg cs.toArray) (hap : apartX y dL = true) (hsz : ∃ n, a.tmps.size = n ∧ dL < n) (hl : cs.length = 16) (h1 : cs.all (·.oneCell') = true)
    (fin : ∀ b W, Bxr w0 ((b, 28, cs) :: bs) rs W → Q .normal (a.put (some dL) (.pointer (some ⟨b, 0, none⟩))) W) : wpList Tryd.prog ops Q [oL, oS] a w := by
  obtain ⟨n, hn, hd⟩ := hsz
  refine wpList_val (v := .pointer (some ⟨w.heap.size, 0, none⟩)) (w' := w.alloc (.cells zCM 28)) gL (by unfold execOp; rw [pL]; dsimp only; kernel_rfl) ?_
  rw [tL]
  have h := hB.new zCM 28
  refine wpList_stor (b := w.heap.size) (cs := cs) gS tS pS (put_same _ (by omega) _) (by rw [put_eval _ hap]; exact hy) (h.1.get 0 rfl) (by rw [hl]; rfl) (by rw [hl]; kernel_rfl) h1 ?_
  exact fin _ _ (h.setc 0 (vs := cs) rfl (by rw [hl]; rfl))
set_option maxHeartbeats 1000000 in
theorem app2 {w0 : World} {bs : List (Nat × TypeId × List Value)} {rs : List (Value × List It)} {s s2 : Ms} {a0 : Option Addr} {n0 c0 N B : Nat} {now most : Int} {c : Cm} {an : An} {oA oM oE0 oE1 oL0 oL1 oS0 oS1 : Oper} {dA dM e0 e1 d0 d1 : Nat} {y1 y2 y3 : Operand}
    (hB : Bxr w0 bs rs w) (hI : Its w (.slice a0 n0 c0) s.its) (hF : Fit N B s) (hN : N ≤ 4194304) (hBd : B ≤ 1048576) (ck : c.Ok) (hv : Nu.Vars w0) (hr : apply s now c most = (s2, an))
    (gd : (oA.guard, oM.guard, oE0.guard, oE1.guard, oL0.guard, oL1.guard, oS0.guard, oS1.guard) = (none, none, none, none, none, none, none, none))
    (ds : (oA.dst, oM.dst, oE0.dst, oE1.dst, oL0.dst, oL1.dst, oS0.dst, oS1.dst) = (some dA, some dM, some e0, some e1, some d0, some d1, none, none))
    (pA : oA.op = .call { callee := .value (.func 17), args := #[y1, y2, y3, .const (.int .i64 most)], argTypes := #[25, 2, 28, 3] })
    (pM : oM.op = .move (.tmp dA)) (pE0 : oE0.op = .extract (.tmp dM) 0) (pE1 : oE1.op = .extract (.tmp dM) 1)
    (pL0 : oL0.op = .alloc 25) (pL1 : oL1.op = .alloc 35) (pS0 : oS0.op = .store 25 (.tmp d0) (.tmp e0)) (pS1 : oS1.op = .store 35 (.tmp d1) (.tmp e1))
    (hne : ([dA, dM, e0, e1, d0, d1].Nodup : Prop))
    (hsz : ∃ n, a.tmps.size = n ∧ dA < n ∧ dM < n ∧ e0 < n ∧ e1 < n ∧ d0 < n ∧ d1 < n)
    (h1 : a.eval y1 = .agg (stv (.slice a0 n0 c0) s).toArray) (h2 : a.eval y2 = .int .i64 now) (h3 : a.eval y3 = c.v)
    (fin : ∀ b a2 n2 c2 W, Bxr w0 ((b + 1, 35, an.cells) :: (b, 25, stv (.slice a2 n2 c2) s2) :: bs) ((.slice a2 n2 c2, s2.its) :: rs) W → Q .normal ((((((a.put (some dA) (.tuple #[.agg (stv (.slice a2 n2 c2) s2).toArray, an.v])).put (some dM) (.tuple #[.agg (stv (.slice a2 n2 c2) s2).toArray, an.v])).put (some e0) (.agg (stv (.slice a2 n2 c2) s2).toArray)).put (some e1) an.v).put (some d0) (.pointer (some ⟨b, 0, none⟩))).put (some d1) (.pointer (some ⟨b + 1, 0, none⟩))) W) :
    wpList Tryd.prog ops Q [oA, oM, oE0, oE1, oL0, oL1, oS0, oS1] a w := by
  simp only [Prod.mk.injEq] at gd ds
  obtain ⟨gA, gM, gE0, gE1, gL0, gL1, gS0, gS1⟩ := gd
  obtain ⟨tA, tM, tE0, tE1, tL0, tL1, tS0, tS1⟩ := ds
  obtain ⟨n, hn, nA, nM, ne0, ne1, nd0, nd1⟩ := hsz
  simp only [List.nodup_cons, List.mem_cons, List.not_mem_nil, or_false, not_or] at hne
  obtain ⟨⟨qAM, qA0, qA1, qAd0, qAd1⟩, ⟨qM0, qM1, qMd0, qMd1⟩, ⟨q01, q0d0, q0d1⟩, ⟨q1d0, q1d1⟩, qdd, -⟩ := hne
  have ap : ∀ {x d : Nat}, x ≠ d → apartX (.tmp x) d = true := fun h => by simpa [apartX] using h
  refine wpList_calls gA (run_app a w pA h1 h2 h3) ?_
  refine (apply_bx (now := now) (c := c) (most := most) hB hI hF hN hBd ck hv hr (cs := an.cells.toArray) rfl).mono ?_
  rintro e W ⟨a2, n2, c2, rfl, hb⟩
  refine ⟨_, rfl, ?_⟩
  rw [tA]
  change wpList _ _ _ _ (a.put (some dA) (.tuple #[.agg (stv (.slice a2 n2 c2) s2).toArray, an.v])) W
  have k1 : (a.put (some dA) (.tuple #[.agg (stv (.slice a2 n2 c2) s2).toArray, an.v])).eval (.tmp dA) = (.tuple #[.agg (stv (.slice a2 n2 c2) s2).toArray, an.v]) := put_same _ (by omega) _
  refine wpList_val (v := (.tuple #[.agg (stv (.slice a2 n2 c2) s2).toArray, an.v])) (w' := W) gM (by unfold execOp; rw [pM]; dsimp only; rw [k1]; rfl) ?_
  rw [tM]
  have k2 : ((a.put (some dA) (.tuple #[.agg (stv (.slice a2 n2 c2) s2).toArray, an.v])).put (some dM) (.tuple #[.agg (stv (.slice a2 n2 c2) s2).toArray, an.v])).eval (.tmp dM) = (.tuple #[.agg (stv (.slice a2 n2 c2) s2).toArray, an.v]) := put_same _ (by simp only [put_size]; omega) _
  refine wpList_val (v := .agg (stv (.slice a2 n2 c2) s2).toArray) (w' := W) gE0 (by unfold execOp; rw [pE0]; dsimp only; rw [k2]; rfl) ?_
  rw [tE0]
  have k3 : (((a.put (some dA) (.tuple #[.agg (stv (.slice a2 n2 c2) s2).toArray, an.v])).put (some dM) (.tuple #[.agg (stv (.slice a2 n2 c2) s2).toArray, an.v])).put (some e0) (.agg (stv (.slice a2 n2 c2) s2).toArray)).eval (.tmp dM) = (.tuple #[.agg (stv (.slice a2 n2 c2) s2).toArray, an.v]) := by rw [put_eval _ (ap qM0)]; exact k2
  refine wpList_val (v := an.v) (w' := W) gE1 (by unfold execOp; rw [pE1]; dsimp only; rw [k3]; rfl) ?_
  rw [tE1]
  have k4 : ((((a.put (some dA) (.tuple #[.agg (stv (.slice a2 n2 c2) s2).toArray, an.v])).put (some dM) (.tuple #[.agg (stv (.slice a2 n2 c2) s2).toArray, an.v])).put (some e0) (.agg (stv (.slice a2 n2 c2) s2).toArray)).put (some e1) an.v).eval (.tmp e0) = .agg (stv (.slice a2 n2 c2) s2).toArray := by rw [put_eval _ (ap q01)]; exact put_same _ (by simp only [put_size]; omega) _
  have k5 : ((((a.put (some dA) (.tuple #[.agg (stv (.slice a2 n2 c2) s2).toArray, an.v])).put (some dM) (.tuple #[.agg (stv (.slice a2 n2 c2) s2).toArray, an.v])).put (some e0) (.agg (stv (.slice a2 n2 c2) s2).toArray)).put (some e1) an.v).eval (.tmp e1) = .agg an.cells.toArray := put_same _ (by simp only [put_size]; omega) _
  generalize hX : ((((a.put (some dA) (.tuple #[.agg (stv (.slice a2 n2 c2) s2).toArray, an.v])).put (some dM) (.tuple #[.agg (stv (.slice a2 n2 c2) s2).toArray, an.v])).put (some e0) (.agg (stv (.slice a2 n2 c2) s2).toArray)).put (some e1) an.v) = X at *
  have hs : X.tmps.size = n := by rw [← hX]; simp only [put_size]; exact hn
  refine wpList_val gL0 (run_sta X W pL0) ?_
  rw [tL0]
  have hb1 := hb.new zST 25
  generalize hW1 : W.alloc (.cells zST 25) = W1 at *
  have hsz1 : W1.heap.size = W.heap.size + 1 := by rw [← hW1, World.size_alloc]
  refine wpList_val gL1 (run_ans _ W1 pL1) ?_
  rw [tL1]
  have hb2 := hb1.new zAN 35
  rw [hsz1] at hb2 ⊢
  generalize W1.alloc (.cells zAN 35) = W2 at *
  have r0 : ((X.put (some d0) (.pointer (some ⟨W.heap.size, 0, none⟩))).put (some d1) (.pointer (some ⟨W.heap.size + 1, 0, none⟩))).eval (.tmp d0) = .pointer (some ⟨W.heap.size, 0, none⟩) := by rw [put_eval _ (ap qdd)]; exact put_same _ (by omega) _
  have r1 : ((X.put (some d0) (.pointer (some ⟨W.heap.size, 0, none⟩))).put (some d1) (.pointer (some ⟨W.heap.size + 1, 0, none⟩))).eval (.tmp d1) = .pointer (some ⟨W.heap.size + 1, 0, none⟩) := put_same _ (by simp only [put_size]; omega) _
  have r2 : ((X.put (some d0) (.pointer (some ⟨W.heap.size, 0, none⟩))).put (some d1) (.pointer (some ⟨W.heap.size + 1, 0, none⟩))).eval (.tmp e0) = .agg (stv (.slice a2 n2 c2) s2).toArray := by rw [put_eval _ (ap q0d1), put_eval _ (ap q0d0)]; exact k4
  have r3 : ((X.put (some d0) (.pointer (some ⟨W.heap.size, 0, none⟩))).put (some d1) (.pointer (some ⟨W.heap.size + 1, 0, none⟩))).eval (.tmp e1) = .agg an.cells.toArray := by rw [put_eval _ (ap q1d1), put_eval _ (ap q1d0)]; exact k5
  refine wpList_stor gS0 tS0 pS0 r0 r2 (hb2.1.get 1 rfl) rfl (by kernel_rfl) rfl ?_
  have hb3 := hb2.setc 1 (vs := stv (.slice a2 n2 c2) s2) rfl rfl
  refine wpList_stor gS1 tS1 pS1 r1 r3 (hb3.1.get 0 rfl) rfl (by kernel_rfl) rfl ?_
  have hb4 := hb3.setc 0 (vs := an.cells) rfl rfl
  have := fin _ a2 n2 c2 _ hb4
  rw [hX] at this
  exact this
set_option maxHeartbeats 1000000 in
theorem app1 {w0 : World} {bs : List (Nat × TypeId × List Value)} {rs : List (Value × List It)} {s s2 : Ms} {a0 : Option Addr} {n0 c0 N B : Nat} {now most : Int} {c : Cm} {an : An} {oA oM oE0 oE1 oL1 oS0 oS1 : Oper} {dA dM e0 e1 d1 : Nat} {y1 y2 y3 : Operand}
    (hB : Bxr w0 bs rs w) (hI : Its w (.slice a0 n0 c0) s.its) (hF : Fit N B s) (hN : N ≤ 4194304) (hBd : B ≤ 1048576) (ck : c.Ok) (hv : Nu.Vars w0) (hr : apply s now c most = (s2, an))
    (gd : (oA.guard, oM.guard, oE0.guard, oE1.guard, oL1.guard, oS0.guard, oS1.guard) = (none, none, none, none, none, none, none))
    (ds : (oA.dst, oM.dst, oE0.dst, oE1.dst, oL1.dst, oS0.dst, oS1.dst) = (some dA, some dM, some e0, some e1, some d1, none, none))
    (pA : oA.op = .call { callee := .value (.func 17), args := #[y1, y2, y3, .const (.int .i64 most)], argTypes := #[25, 2, 28, 3] })
    (pM : oM.op = .move (.tmp dA)) (pE0 : oE0.op = .extract (.tmp dM) 0) (pE1 : oE1.op = .extract (.tmp dM) 1)
    (isb sb x0 : Nat) (so : List Value) (hisb : bs[isb]? = some (sb, 25, so)) (hso : so.length = 3) (hx0 : a.eval (.tmp x0) = .pointer (some ⟨sb, 0, none⟩)) (pS0 : oS0.op = .store 25 (.tmp x0) (.tmp e0))
    (pL1 : oL1.op = .alloc 35) (pS1 : oS1.op = .store 35 (.tmp d1) (.tmp e1))
    (hne : ([dA, dM, e0, e1, d1, x0].Nodup : Prop))
    (hsz : ∃ n, a.tmps.size = n ∧ dA < n ∧ dM < n ∧ e0 < n ∧ e1 < n ∧ d1 < n)
    (h1 : a.eval y1 = .agg (stv (.slice a0 n0 c0) s).toArray) (h2 : a.eval y2 = .int .i64 now) (h3 : a.eval y3 = c.v)
    (fin : ∀ b a2 n2 c2 W, Bxr w0 ((b, 35, an.cells) :: bs.set isb (sb, 25, stv (.slice a2 n2 c2) s2)) ((.slice a2 n2 c2, s2.its) :: rs) W → Q .normal (((((a.put (some dA) (.tuple #[.agg (stv (.slice a2 n2 c2) s2).toArray, an.v])).put (some dM) (.tuple #[.agg (stv (.slice a2 n2 c2) s2).toArray, an.v])).put (some e0) (.agg (stv (.slice a2 n2 c2) s2).toArray)).put (some e1) an.v).put (some d1) (.pointer (some ⟨b, 0, none⟩))) W) :
    wpList Tryd.prog ops Q [oA, oM, oE0, oE1, oL1, oS0, oS1] a w := by
  simp only [Prod.mk.injEq] at gd ds
  obtain ⟨gA, gM, gE0, gE1, gL1, gS0, gS1⟩ := gd
  obtain ⟨tA, tM, tE0, tE1, tL1, tS0, tS1⟩ := ds
  obtain ⟨n, hn, nA, nM, ne0, ne1, nd1⟩ := hsz
  simp only [List.nodup_cons, List.mem_cons, List.not_mem_nil, or_false, not_or] at hne
  obtain ⟨⟨qAM, qA0, qA1, qAd1, qAx⟩, ⟨qM0, qM1, qMd1, qMx⟩, ⟨q01, q0d1, q0x⟩, ⟨q1d1, q1x⟩, qdx, -⟩ := hne
  have ap : ∀ {x d : Nat}, x ≠ d → apartX (.tmp x) d = true := fun h => by simpa [apartX] using h
  refine wpList_calls gA (run_app a w pA h1 h2 h3) ?_
  refine (apply_bx (now := now) (c := c) (most := most) hB hI hF hN hBd ck hv hr (cs := an.cells.toArray) rfl).mono ?_
  rintro e W ⟨a2, n2, c2, rfl, hb⟩
  refine ⟨_, rfl, ?_⟩
  rw [tA]
  change wpList _ _ _ _ (a.put (some dA) (.tuple #[.agg (stv (.slice a2 n2 c2) s2).toArray, an.v])) W
  have k1 : (a.put (some dA) (.tuple #[.agg (stv (.slice a2 n2 c2) s2).toArray, an.v])).eval (.tmp dA) = (.tuple #[.agg (stv (.slice a2 n2 c2) s2).toArray, an.v]) := put_same _ (by omega) _
  refine wpList_val (v := (.tuple #[.agg (stv (.slice a2 n2 c2) s2).toArray, an.v])) (w' := W) gM (by unfold execOp; rw [pM]; dsimp only; rw [k1]; rfl) ?_
  rw [tM]
  have k2 : ((a.put (some dA) (.tuple #[.agg (stv (.slice a2 n2 c2) s2).toArray, an.v])).put (some dM) (.tuple #[.agg (stv (.slice a2 n2 c2) s2).toArray, an.v])).eval (.tmp dM) = (.tuple #[.agg (stv (.slice a2 n2 c2) s2).toArray, an.v]) := put_same _ (by simp only [put_size]; omega) _
  refine wpList_val (v := .agg (stv (.slice a2 n2 c2) s2).toArray) (w' := W) gE0 (by unfold execOp; rw [pE0]; dsimp only; rw [k2]; rfl) ?_
  rw [tE0]
  have k3 : (((a.put (some dA) (.tuple #[.agg (stv (.slice a2 n2 c2) s2).toArray, an.v])).put (some dM) (.tuple #[.agg (stv (.slice a2 n2 c2) s2).toArray, an.v])).put (some e0) (.agg (stv (.slice a2 n2 c2) s2).toArray)).eval (.tmp dM) = (.tuple #[.agg (stv (.slice a2 n2 c2) s2).toArray, an.v]) := by rw [put_eval _ (ap qM0)]; exact k2
  refine wpList_val (v := an.v) (w' := W) gE1 (by unfold execOp; rw [pE1]; dsimp only; rw [k3]; rfl) ?_
  rw [tE1]
  have k4 : ((((a.put (some dA) (.tuple #[.agg (stv (.slice a2 n2 c2) s2).toArray, an.v])).put (some dM) (.tuple #[.agg (stv (.slice a2 n2 c2) s2).toArray, an.v])).put (some e0) (.agg (stv (.slice a2 n2 c2) s2).toArray)).put (some e1) an.v).eval (.tmp e0) = .agg (stv (.slice a2 n2 c2) s2).toArray := by rw [put_eval _ (ap q01)]; exact put_same _ (by simp only [put_size]; omega) _
  have k5 : ((((a.put (some dA) (.tuple #[.agg (stv (.slice a2 n2 c2) s2).toArray, an.v])).put (some dM) (.tuple #[.agg (stv (.slice a2 n2 c2) s2).toArray, an.v])).put (some e0) (.agg (stv (.slice a2 n2 c2) s2).toArray)).put (some e1) an.v).eval (.tmp e1) = .agg an.cells.toArray := put_same _ (by simp only [put_size]; omega) _
  have k6 : ((((a.put (some dA) (.tuple #[.agg (stv (.slice a2 n2 c2) s2).toArray, an.v])).put (some dM) (.tuple #[.agg (stv (.slice a2 n2 c2) s2).toArray, an.v])).put (some e0) (.agg (stv (.slice a2 n2 c2) s2).toArray)).put (some e1) an.v).eval (.tmp x0) = .pointer (some ⟨sb, 0, none⟩) := by rw [put_eval _ (ap (Ne.symm q1x)), put_eval _ (ap (Ne.symm q0x)), put_eval _ (ap (Ne.symm qMx)), put_eval _ (ap (Ne.symm qAx))]; exact hx0
  generalize hX : ((((a.put (some dA) (.tuple #[.agg (stv (.slice a2 n2 c2) s2).toArray, an.v])).put (some dM) (.tuple #[.agg (stv (.slice a2 n2 c2) s2).toArray, an.v])).put (some e0) (.agg (stv (.slice a2 n2 c2) s2).toArray)).put (some e1) an.v) = X at *
  have hs : X.tmps.size = n := by rw [← hX]; simp only [put_size]; exact hn
  refine wpList_val gL1 (run_ans X W pL1) ?_
  rw [tL1]
  have hb2 := hb.new zAN 35
  generalize hP : W.heap.size = Pq at *
  generalize W.alloc (.cells zAN 35) = W2 at *
  have r0 : (X.put (some d1) (.pointer (some ⟨Pq, 0, none⟩))).eval (.tmp x0) = .pointer (some ⟨sb, 0, none⟩) := by rw [put_eval _ (ap (Ne.symm qdx))]; exact k6
  have r1 : (X.put (some d1) (.pointer (some ⟨Pq, 0, none⟩))).eval (.tmp d1) = .pointer (some ⟨Pq, 0, none⟩) := put_same _ (by omega) _
  have r2 : (X.put (some d1) (.pointer (some ⟨Pq, 0, none⟩))).eval (.tmp e0) = .agg (stv (.slice a2 n2 c2) s2).toArray := by rw [put_eval _ (ap q0d1)]; exact k4
  have r3 : (X.put (some d1) (.pointer (some ⟨Pq, 0, none⟩))).eval (.tmp e1) = .agg an.cells.toArray := by rw [put_eval _ (ap q1d1)]; exact k5
  have hg := hb2.1.get (isb + 1) (b := sb) (t := 25) (cs := so) (by simpa using hisb)
  refine wpList_stor gS0 tS0 pS0 r0 r2 hg (by rw [hso]; rfl) (by kernel_rfl) rfl ?_
  have hb3 := hb2.setc (isb + 1) (b := sb) (t := 25) (cs := so) (vs := stv (.slice a2 n2 c2) s2) (by simpa using hisb) (by rw [hso]; rfl)
  refine wpList_stor gS1 tS1 pS1 r1 r3 (hb3.1.get 0 rfl) rfl (by kernel_rfl) rfl ?_
  have hb4 := hb3.setc 0 (vs := an.cells) rfl rfl
  have := fin _ a2 n2 c2 _ hb4
  rw [hX] at this
  exact this
set_option maxHeartbeats 1000000 in
theorem app0 {w0 : World} {bs : List (Nat × TypeId × List Value)} {rs : List (Value × List It)} {s s2 : Ms} {a0 : Option Addr} {n0 c0 N B : Nat} {now most : Int} {c : Cm} {an : An} {oA oM oE0 oE1 oS0 : Oper} {dA dM e0 e1 : Nat} {y1 y2 y3 : Operand}
    (hB : Bxr w0 bs rs w) (hI : Its w (.slice a0 n0 c0) s.its) (hF : Fit N B s) (hN : N ≤ 4194304) (hBd : B ≤ 1048576) (ck : c.Ok) (hv : Nu.Vars w0) (hr : apply s now c most = (s2, an))
    (gd : (oA.guard, oM.guard, oE0.guard, oE1.guard, oS0.guard) = (none, none, none, none, none))
    (ds : (oA.dst, oM.dst, oE0.dst, oE1.dst, oS0.dst) = (some dA, some dM, some e0, some e1, none))
    (pA : oA.op = .call { callee := .value (.func 17), args := #[y1, y2, y3, .const (.int .i64 most)], argTypes := #[25, 2, 28, 3] })
    (pM : oM.op = .move (.tmp dA)) (pE0 : oE0.op = .extract (.tmp dM) 0) (pE1 : oE1.op = .extract (.tmp dM) 1)
    (isb sb x0 : Nat) (so : List Value) (hisb : bs[isb]? = some (sb, 25, so)) (hso : so.length = 3) (hx0 : a.eval (.tmp x0) = .pointer (some ⟨sb, 0, none⟩)) (pS0 : oS0.op = .store 25 (.tmp x0) (.tmp e0))
    (hne : ([dA, dM, e0, e1, x0].Nodup : Prop))
    (hsz : ∃ n, a.tmps.size = n ∧ dA < n ∧ dM < n ∧ e0 < n ∧ e1 < n)
    (h1 : a.eval y1 = .agg (stv (.slice a0 n0 c0) s).toArray) (h2 : a.eval y2 = .int .i64 now) (h3 : a.eval y3 = c.v)
    (fin : ∀ a2 n2 c2 W, Bxr w0 (bs.set isb (sb, 25, stv (.slice a2 n2 c2) s2)) ((.slice a2 n2 c2, s2.its) :: rs) W → Q .normal ((((a.put (some dA) (.tuple #[.agg (stv (.slice a2 n2 c2) s2).toArray, an.v])).put (some dM) (.tuple #[.agg (stv (.slice a2 n2 c2) s2).toArray, an.v])).put (some e0) (.agg (stv (.slice a2 n2 c2) s2).toArray)).put (some e1) an.v) W) :
    wpList Tryd.prog ops Q [oA, oM, oE0, oE1, oS0] a w := by
  simp only [Prod.mk.injEq] at gd ds
  obtain ⟨gA, gM, gE0, gE1, gS0⟩ := gd
  obtain ⟨tA, tM, tE0, tE1, tS0⟩ := ds
  obtain ⟨n, hn, nA, nM, ne0, ne1⟩ := hsz
  simp only [List.nodup_cons, List.mem_cons, List.not_mem_nil, or_false, not_or] at hne
  obtain ⟨⟨qAM, qA0, qA1, qAx⟩, ⟨qM0, qM1, qMx⟩, ⟨q01, q0x⟩, q1x, -⟩ := hne
  have ap : ∀ {x d : Nat}, x ≠ d → apartX (.tmp x) d = true := fun h => by simpa [apartX] using h
  refine wpList_calls gA (run_app a w pA h1 h2 h3) ?_
  refine (apply_bx (now := now) (c := c) (most := most) hB hI hF hN hBd ck hv hr (cs := an.cells.toArray) rfl).mono ?_
  rintro e W ⟨a2, n2, c2, rfl, hb⟩
  refine ⟨_, rfl, ?_⟩
  rw [tA]
  change wpList _ _ _ _ (a.put (some dA) (.tuple #[.agg (stv (.slice a2 n2 c2) s2).toArray, an.v])) W
  have k1 : (a.put (some dA) (.tuple #[.agg (stv (.slice a2 n2 c2) s2).toArray, an.v])).eval (.tmp dA) = (.tuple #[.agg (stv (.slice a2 n2 c2) s2).toArray, an.v]) := put_same _ (by omega) _
  refine wpList_val (v := (.tuple #[.agg (stv (.slice a2 n2 c2) s2).toArray, an.v])) (w' := W) gM (by unfold execOp; rw [pM]; dsimp only; rw [k1]; rfl) ?_
  rw [tM]
  have k2 : ((a.put (some dA) (.tuple #[.agg (stv (.slice a2 n2 c2) s2).toArray, an.v])).put (some dM) (.tuple #[.agg (stv (.slice a2 n2 c2) s2).toArray, an.v])).eval (.tmp dM) = (.tuple #[.agg (stv (.slice a2 n2 c2) s2).toArray, an.v]) := put_same _ (by simp only [put_size]; omega) _
  refine wpList_val (v := .agg (stv (.slice a2 n2 c2) s2).toArray) (w' := W) gE0 (by unfold execOp; rw [pE0]; dsimp only; rw [k2]; rfl) ?_
  rw [tE0]
  have k3 : (((a.put (some dA) (.tuple #[.agg (stv (.slice a2 n2 c2) s2).toArray, an.v])).put (some dM) (.tuple #[.agg (stv (.slice a2 n2 c2) s2).toArray, an.v])).put (some e0) (.agg (stv (.slice a2 n2 c2) s2).toArray)).eval (.tmp dM) = (.tuple #[.agg (stv (.slice a2 n2 c2) s2).toArray, an.v]) := by rw [put_eval _ (ap qM0)]; exact k2
  refine wpList_val (v := an.v) (w' := W) gE1 (by unfold execOp; rw [pE1]; dsimp only; rw [k3]; rfl) ?_
  rw [tE1]
  have k4 : ((((a.put (some dA) (.tuple #[.agg (stv (.slice a2 n2 c2) s2).toArray, an.v])).put (some dM) (.tuple #[.agg (stv (.slice a2 n2 c2) s2).toArray, an.v])).put (some e0) (.agg (stv (.slice a2 n2 c2) s2).toArray)).put (some e1) an.v).eval (.tmp e0) = .agg (stv (.slice a2 n2 c2) s2).toArray := by rw [put_eval _ (ap q01)]; exact put_same _ (by simp only [put_size]; omega) _
  have k5 : ((((a.put (some dA) (.tuple #[.agg (stv (.slice a2 n2 c2) s2).toArray, an.v])).put (some dM) (.tuple #[.agg (stv (.slice a2 n2 c2) s2).toArray, an.v])).put (some e0) (.agg (stv (.slice a2 n2 c2) s2).toArray)).put (some e1) an.v).eval (.tmp e1) = .agg an.cells.toArray := put_same _ (by simp only [put_size]; omega) _
  have k6 : ((((a.put (some dA) (.tuple #[.agg (stv (.slice a2 n2 c2) s2).toArray, an.v])).put (some dM) (.tuple #[.agg (stv (.slice a2 n2 c2) s2).toArray, an.v])).put (some e0) (.agg (stv (.slice a2 n2 c2) s2).toArray)).put (some e1) an.v).eval (.tmp x0) = .pointer (some ⟨sb, 0, none⟩) := by rw [put_eval _ (ap (Ne.symm q1x)), put_eval _ (ap (Ne.symm q0x)), put_eval _ (ap (Ne.symm qMx)), put_eval _ (ap (Ne.symm qAx))]; exact hx0
  have hg := hb.1.get isb (b := sb) (t := 25) (cs := so) hisb
  refine wpList_stor gS0 tS0 pS0 k6 k4 hg (by rw [hso]; rfl) (by kernel_rfl) rfl ?_
  exact fin a2 n2 c2 _ (hb.setc isb (b := sb) (t := 25) (cs := so) (vs := stv (.slice a2 n2 c2) s2) hisb (by rw [hso]; rfl))
end
end Go.Proofs.YtpgljahomeebhaaDoor.Md
