/-
  Two regions of ModelApplies, each in one step: the document's Apply of a copied state, with boxes for its two results, in whatever order; the program's Apply with its bound in a slot. Conditions: the state is not over great; numbers are in their types' ranges.
-/
import Derived.Test.YtpgljahomeebhaaDoorM2
import Derived.Test.YtpgljahomeebhaaDoorM9
namespace Go.Proofs.YtpgljahomeebhaaDoor.Md
open Go Go.RowKit Go.Lib
section
variable {ops : Array Oper} {Q : Exit → Act → World → Prop} {st : Nat} {rest : List Oper} {a : Act} {w w' : World}
theorem run_copied (b : Act) (W : World) {o : Oper} {x : Operand} {v : Value} (h : o.op = .call { callee := .value (.func 15), args := #[x], argTypes := #[25] }) (hx : b.eval x = v) : (execOp b.eval o).run Tryd.prog W = .ok (.enter 15 #[v]) W := by
  unfold execOp
  rw [h]
  dsimp only
  unfold resolve
  dsimp only
  rw [show (#[x].map b.eval) = #[b.eval x] by simp, hx]
  kernel_rfl
theorem run_ref (b : Act) (W : World) {o : Oper} {x y z u : Operand} {v1 v2 v3 v4 : Value} (h : o.op = .call { callee := .value (.func 16), args := #[x, y, z, u], argTypes := #[25, 2, 28, 3] }) (hx : b.eval x = v1) (hy : b.eval y = v2) (hz : b.eval z = v3) (hu : b.eval u = v4) : (execOp b.eval o).run Tryd.prog W = .ok (.enter 16 #[v1, v2, v3, v4]) W := by
  unfold execOp
  rw [h]
  dsimp only
  unfold resolve
  dsimp only
  rw [show (#[x, y, z, u].map b.eval) = #[b.eval x, b.eval y, b.eval z, b.eval u] by simp, hx, hy, hz, hu]
  kernel_rfl
theorem run_appT (b : Act) (W : World) {o : Oper} {x y z u : Operand} {v1 v2 v3 v4 : Value} (h : o.op = .call { callee := .value (.func 17), args := #[x, y, z, u], argTypes := #[25, 2, 28, 3] }) (hx : b.eval x = v1) (hy : b.eval y = v2) (hz : b.eval z = v3) (hu : b.eval u = v4) : (execOp b.eval o).run Tryd.prog W = .ok (.enter 17 #[v1, v2, v3, v4]) W := by
  unfold execOp
  rw [h]
  dsimp only
  unfold resolve
  dsimp only
  rw [show (#[x, y, z, u].map b.eval) = #[b.eval x, b.eval y, b.eval z, b.eval u] by simp, hx, hy, hz, hu]
  kernel_rfl
set_option maxHeartbeats 1000000 in
theorem ref7 {w0 w : World} {bs : List (Nat × TypeId × List Value)} {rs : List (Value × List It)} {s s2 : Ms} {a0 : Option Addr} {n0 c0 sb tb N B : Nat} {c : Cm} {now most : Int} {an : An} (l : Array Bool) (a : Act) (G A M E0 E1 L0 L1 S0 S1 : Nat)
    {oG oA oM oE0 oE1 oL0 oL1 oS0 oS1 : Oper} {dG dA dM e0 e1 d0 d1 : Nat} {xG y1 y2 y3 : Operand}
    (hB : Bxr w0 bs rs w) (hsb : (sb, 25, stv (.slice a0 n0 c0) s) ∈ bs) (htb : (tb, 28, c.cells) ∈ bs) (hI : Its w0 (.slice a0 n0 c0) s.its) (hF : Fit N B s) (hN : N ≤ 4194304) (hK : Keyed s.its) (hBd : B ≤ 1048576) (hks : c.key.size < 9223372036854775807) (hini : c.init ≤ 18446744073709551615) (hr : apply s now c most = (s2, an)) (hK2 : Keyed s2.its)
    (iG : ops[G]? = some oG) (iA : ops[A]? = some oA) (iM : ops[M]? = some oM) (iE0 : ops[E0]? = some oE0) (iE1 : ops[E1]? = some oE1) (iL0 : ops[L0]? = some oL0) (iL1 : ops[L1]? = some oL1) (iS0 : ops[S0]? = some oS0) (iS1 : ops[S1]? = some oS1)
    (gd : (oG.guard, oA.guard, oM.guard, oE0.guard, oE1.guard, oL0.guard, oL1.guard) = (none, none, none, none, none, none, none))
    (ds : (oG.dst, oA.dst, oM.dst, oE0.dst, oE1.dst, oL0.dst, oL1.dst) = (some dG, some dA, some dM, some e0, some e1, some d0, some d1))
    (gs : (oS0.guard, oS1.guard, oS0.dst, oS1.dst) = (none, none, none, none))
    (pM : oM.op = .move (.tmp dA)) (pE0 : oE0.op = .extract (.tmp dM) 0) (pE1 : oE1.op = .extract (.tmp dM) 1)
    (pS0 : oS0.op = .store 25 (.tmp d0) (.tmp e0)) (pS1 : oS1.op = .store 35 (.tmp d1) (.tmp e1))
    (hok : diaOk .any ops l st G A M E0 E1 L0 L1 = true)
    (hne : [d0, d1, dG].Nodup ∧ [d0, d1, dA, dM, e0, e1].Nodup)
    (hap : (apartX xG d0 && (apartX xG d1 && (apartX y1 d0 && (apartX y1 d1 && (apartX y1 dG && (apartX y2 d0 && (apartX y2 d1 && (apartX y2 dG && (apartX y3 d0 && (apartX y3 d1 && apartX y3 dG)))))))))) = true)
    (hsz : ∃ n, a.tmps.size = n ∧ dG < n ∧ dA < n ∧ dM < n ∧ e0 < n ∧ e1 < n ∧ d1 < n ∧ d0 < n)
    (hx : a.eval xG = .agg (stv (.slice a0 n0 c0) s).toArray) (h1 : a.eval y1 = .int .i64 now) (h2 : a.eval y2 = c.v) (h3 : a.eval y3 = .int .i64 most)
    (rG : oG.op = .call { callee := .value (.func 15), args := #[xG], argTypes := #[25] })
    (rA : oA.op = .call { callee := .value (.func 16), args := #[.tmp dG, y1, y2, y3], argTypes := #[25, 2, 28, 3] })
    (r0 : oL0.op = .alloc 25)
    (r1 : oL1.op = .alloc 35)
    (hQ : ∀ (d : Nat) c b v W, Q (.panic c) (b.put (some d) v) W → Q (.panic c) b W)
    (q1 : Region.ready .any ops (setAll l [G, A, M, E0, E1, L0, L1]) = [S0]) (q2 : Region.ready .any ops (setAll l ([G, A, M, E0, E1, L0, L1] ++ [S0])) = [S1]) (q3 : Region.ready .any ops (setAll l ([G, A, M, E0, E1, L0, L1] ++ [S0, S1])) = [])
    (fin : ∀ g r b0 b1 W, Bxr w0 ((b1, 35, an.cells) :: (b0, 25, stv r s2) :: bs) rs W → Its W r s2.its → Q .normal (((((((a.put (some dG) (.agg (stv g s).toArray)).put (some dA) (.tuple #[.agg (stv r s2).toArray, an.v])).put (some dM) (.tuple #[.agg (stv r s2).toArray, an.v])).put (some e0) (.agg (stv r s2).toArray)).put (some e1) an.v).put (some d0) (.pointer (some ⟨b0, 0, none⟩))).put (some d1) (.pointer (some ⟨b1, 0, none⟩))) W) :
    wpAnyE Tryd.prog .any ops Q (fun W => Blk W sb 25 (stv (.slice a0 n0 c0) s) ∧ Blk W tb 28 c.cells) st 9 l a w := by
  have hlen : s.its.length ≤ 4194304 := Nat.le_trans hF.len hN
  simp only [Prod.mk.injEq] at gs
  obtain ⟨gS0, gS1, tS0, tS1⟩ := gs
  obtain ⟨n, hn, z1, z2, z3, z4, z5, z6, z7⟩ := hsz
  have bm : ∀ {p q : Option Nat} {rs2 : List (Value × List It)} {W : World}, Bxr w0 (ob 35 zAN.toList q ++ (ob 25 zST.toList p ++ bs)) rs2 W → Blk W sb 25 (stv (.slice a0 n0 c0) s) ∧ Blk W tb 28 c.cells := fun {p q} {rs2} {W} h => ⟨h.blk (by simp [hsb]), h.blk (by simp [htb])⟩
  have bn0 : ∀ {q : Option Nat} {rs2 : List (Value × List It)} {W : World}, Bxr w0 (ob 35 zAN.toList q ++ (ob 25 zST.toList none ++ bs)) rs2 W → Bxr w0 (ob 35 zAN.toList q ++ (ob 25 zST.toList (some W.heap.size) ++ bs)) rs2 (W.alloc (.cells zST 25)) := fun {q} {rs2} {W} h => by
    cases q with
    | none => exact h.new zST 25
    | some b => exact (h.new zST 25).swap
  have bn1 : ∀ {p : Option Nat} {rs2 : List (Value × List It)} {W : World}, Bxr w0 (ob 35 zAN.toList none ++ (ob 25 zST.toList p ++ bs)) rs2 W → Bxr w0 (ob 35 zAN.toList (some W.heap.size) ++ (ob 25 zST.toList p ++ bs)) rs2 (W.alloc (.cells zAN 35)) := fun h => h.new zAN 35
  refine diaG (R := Value) (T := Value) 2 l a w G A M E0 E1 L0 L1 (fun g => .agg (stv g s).toArray) (fun g => #[.agg (stv g s).toArray, .int .i64 now, c.v, .int .i64 most]) (fun r => .agg (stv r s2).toArray) (fun _ => an.v) (.cells zST 25) (.cells zAN 35)
    (fun p q W => Bxr w0 (ob 35 zAN.toList q ++ (ob 25 zST.toList p ++ bs)) rs W) (fun g p q W => Bxr w0 (ob 35 zAN.toList q ++ (ob 25 zST.toList p ++ bs)) ((g, s.its) :: rs) W) (fun g r p q W => Bxr w0 (ob 35 zAN.toList q ++ (ob 25 zST.toList p ++ bs)) rs W ∧ Its W r s2.its)
    iG iA iM iE0 iE1 iL0 iL1 gd ds pM pE0 pE1 hok hne hap ⟨n, hn, z1, z2, z3⟩ hx h1 h2 h3 (fun b W h => run_copied b W rG h) (fun g b W g1 g2 g3 g4 => run_ref b W rA g4 g1 g2 g3) (fun b W => run_sta b W r0) (fun b W => run_ans b W r1) hQ
    (fun _ _ _ h => bm h) (fun _ _ _ _ h => bm h) (fun _ _ _ _ _ h => bm h.1) (fun _ _ h => bn0 h) (fun _ _ _ h => bn0 h) (fun _ _ _ _ h => ⟨bn0 h.1, h.2.below (abelow _ _)⟩) (fun _ _ h => bn1 h) (fun _ _ _ h => bn1 h) (fun _ _ _ _ h => ⟨bn1 h.1, h.2.below (abelow _ _)⟩) (fun p q W h => ?_) (fun g p q W h => ?_) hB (fun g r b0 b1 W h => ?_)
  · refine (copied_any (s := s) (V := .agg (stv (.slice a0 n0 c0) s).toArray) ⟨_, rfl, hI.below h.1.1⟩ hlen).mono ?_
    rintro e W2 ⟨g, rfl, hrw, hb⟩
    exact ⟨g, rfl, h.call hrw hb⟩
  · refine (ref_apply (s := s) (V := .agg (stv g s).toArray) ⟨_, rfl, h.its 0 rfl⟩ (op := c.op) (mode := c.mode) (k := c.key) (cv := c.val) (fg := c.flags) (exp := c.exp) (hx := c.hasExp) (cs := c.cas) (hc := c.hasCas) (de := c.delta) (ini := c.init) (dn := c.down) (vv := c.viv) (vive := c.vive) (rc := c.rcc) (iv := c.inv) (now := now) (most := most) hks hF hN hK hBd hini).mono ?_
    rintro e W2 ⟨V', rfl, hs, hb⟩
    have hs : Sv W2 V' (apply s now c most).1 := hs
    rw [hr] at hs
    obtain ⟨r, rfl, hIr⟩ := hs
    refine ⟨r, ?_, (h.step hb).only (fun x hx => List.mem_cons_of_mem _ hx), hIr⟩
    show Ending.returned (.tuple #[_, (apply s now c most).2.v]) = _
    rw [hr]; rfl
  · obtain ⟨h, hIr⟩ := h
    simp only [List.nodup_cons, List.mem_cons, List.not_mem_nil, or_false, not_or] at hne
    obtain ⟨⟨⟨n01, n0G⟩, n1G, -⟩, ⟨⟨-, n0A, n0M, n0e0, n0e1⟩, ⟨n1A, n1M, n1e0, n1e1⟩, ⟨nAM, -, -⟩, ⟨nMe0, nMe1⟩, ne01, -⟩⟩ := hne
    have v0 : (((((((a.put (some dG) (.agg (stv g s).toArray)).put (some dA) (.tuple #[.agg (stv r s2).toArray, an.v])).put (some dM) (.tuple #[.agg (stv r s2).toArray, an.v])).put (some e0) (.agg (stv r s2).toArray)).put (some e1) an.v).put (some d0) (.pointer (some ⟨b0, 0, none⟩))).put (some d1) (.pointer (some ⟨b1, 0, none⟩))).eval (.tmp d0) = .pointer (some ⟨b0, 0, none⟩) := by rw [put_eval _ (by simpa [apartX] using n01), put_same _ (by simp only [put_size]; omega)]
    have v1 : (((((((a.put (some dG) (.agg (stv g s).toArray)).put (some dA) (.tuple #[.agg (stv r s2).toArray, an.v])).put (some dM) (.tuple #[.agg (stv r s2).toArray, an.v])).put (some e0) (.agg (stv r s2).toArray)).put (some e1) an.v).put (some d0) (.pointer (some ⟨b0, 0, none⟩))).put (some d1) (.pointer (some ⟨b1, 0, none⟩))).eval (.tmp d1) = .pointer (some ⟨b1, 0, none⟩) := by rw [put_same _ (by simp only [put_size]; omega)]
    have v2 : (((((((a.put (some dG) (.agg (stv g s).toArray)).put (some dA) (.tuple #[.agg (stv r s2).toArray, an.v])).put (some dM) (.tuple #[.agg (stv r s2).toArray, an.v])).put (some e0) (.agg (stv r s2).toArray)).put (some e1) an.v).put (some d0) (.pointer (some ⟨b0, 0, none⟩))).put (some d1) (.pointer (some ⟨b1, 0, none⟩))).eval (.tmp e0) = .agg (stv r s2).toArray := by rw [put_eval _ (by simpa [apartX] using Ne.symm n1e0), put_eval _ (by simpa [apartX] using Ne.symm n0e0), put_eval _ (by simpa [apartX] using ne01), put_same _ (by simp only [put_size]; omega)]
    have v3 : (((((((a.put (some dG) (.agg (stv g s).toArray)).put (some dA) (.tuple #[.agg (stv r s2).toArray, an.v])).put (some dM) (.tuple #[.agg (stv r s2).toArray, an.v])).put (some e0) (.agg (stv r s2).toArray)).put (some e1) an.v).put (some d0) (.pointer (some ⟨b0, 0, none⟩))).put (some d1) (.pointer (some ⟨b1, 0, none⟩))).eval (.tmp e1) = .agg an.cells.toArray := by rw [put_eval _ (by simpa [apartX] using Ne.symm n1e1), put_eval _ (by simpa [apartX] using Ne.symm n0e1), put_same _ (by simp only [put_size]; omega)]; rfl
    have h : Bxr w0 ((b1, 35, zAN.toList) :: (b0, 25, zST.toList) :: bs) rs W := h
    have hb1 := h.setc 1 (vs := stv r s2) rfl rfl
    have hb2 := hb1.setc 0 (vs := an.cells) rfl rfl
    have k0 := h.1.get 1 rfl
    have k1 := hb1.1.get 0 rfl
    have hI1 := its_keep hIr hK2 k0 (by intro k hk; simp [zST] at hk) (stv r s2)
    have hI2 := its_keep hI1 hK2 k1 (by intro k hk; simp [zAN] at hk; rw [hk]; rfl) an.cells
    obtain ⟨ar, cr, rfl⟩ := hIr.form
    refine store_one (S := fun W => Blk W sb 25 (stv (.slice a0 n0 c0) s) ∧ Blk W tb 28 c.cells) iS0 gS0 tS0 pS0 q1 v0 v2 k0 rfl (by kernel_rfl) rfl (fun _ => ?_) ?_
    · exact ⟨hb1.blk (by simp [hsb]), hb1.blk (by simp [htb])⟩
    rw [setAll_snoc]
    refine store_one (S := fun W => Blk W sb 25 (stv (.slice a0 n0 c0) s) ∧ Blk W tb 28 c.cells) iS1 gS1 tS1 pS1 q2 v1 v3 k1 rfl (by kernel_rfl) rfl (fun _ => ?_) ?_
    · exact ⟨hb2.blk (by simp [hsb]), hb2.blk (by simp [htb])⟩
    rw [setAll_snoc]
    exact wpAnyE_done q3 (fin _ _ b0 b1 _ hb2 hI2) _
set_option maxHeartbeats 1000000 in
theorem appT {w0 : World} {bs : List (Nat × TypeId × List Value)} {rs : List (Value × List It)} {s s2 : Ms} {a0 : Option Addr} {n0 c0 N B : Nat} {now most : Int} {c : Cm} {an : An} {oA oM oE0 oE1 oL0 oL1 oS0 oS1 : Oper} {dA dM e0 e1 d0 d1 : Nat} {y1 y2 y3 y4 : Operand}
    (hB : Bxr w0 bs rs w) (hI : Its w (.slice a0 n0 c0) s.its) (hF : Fit N B s) (hN : N ≤ 4194304) (hBd : B ≤ 1048576) (ck : c.Ok) (hv : Nu.Vars w0) (hr : apply s now c most = (s2, an))
    (gd : (oA.guard, oM.guard, oE0.guard, oE1.guard, oL0.guard, oL1.guard, oS0.guard, oS1.guard) = (none, none, none, none, none, none, none, none))
    (ds : (oA.dst, oM.dst, oE0.dst, oE1.dst, oL0.dst, oL1.dst, oS0.dst, oS1.dst) = (some dA, some dM, some e0, some e1, some d0, some d1, none, none))
    (pA : oA.op = .call { callee := .value (.func 17), args := #[y1, y2, y3, y4], argTypes := #[25, 2, 28, 3] })
    (pM : oM.op = .move (.tmp dA)) (pE0 : oE0.op = .extract (.tmp dM) 0) (pE1 : oE1.op = .extract (.tmp dM) 1)
    (pL0 : oL0.op = .alloc 25) (pL1 : oL1.op = .alloc 35) (pS0 : oS0.op = .store 25 (.tmp d0) (.tmp e0)) (pS1 : oS1.op = .store 35 (.tmp d1) (.tmp e1))
    (hne : ([dA, dM, e0, e1, d0, d1].Nodup : Prop))
    (hsz : ∃ n, a.tmps.size = n ∧ dA < n ∧ dM < n ∧ e0 < n ∧ e1 < n ∧ d0 < n ∧ d1 < n)
    (h1 : a.eval y1 = .agg (stv (.slice a0 n0 c0) s).toArray) (h2 : a.eval y2 = .int .i64 now) (h3 : a.eval y3 = c.v) (h4 : a.eval y4 = .int .i64 most)
    (fin : ∀ b a2 n2 c2 W, Bxr w0 ((b + 1, 35, an.cells) :: (b, 25, stv (.slice a2 n2 c2) s2) :: bs) ((.slice a2 n2 c2, s2.its) :: rs) W → Rw (fun x => w.heap.size ≤ x ∧ x ≠ b ∧ x ≠ b + 1) W (.slice a2 n2 c2) s2.its → Q .normal ((((((a.put (some dA) (.tuple #[.agg (stv (.slice a2 n2 c2) s2).toArray, an.v])).put (some dM) (.tuple #[.agg (stv (.slice a2 n2 c2) s2).toArray, an.v])).put (some e0) (.agg (stv (.slice a2 n2 c2) s2).toArray)).put (some e1) an.v).put (some d0) (.pointer (some ⟨b, 0, none⟩))).put (some d1) (.pointer (some ⟨b + 1, 0, none⟩))) W) :
    wpList Tryd.prog ops Q [oA, oM, oE0, oE1, oL0, oL1, oS0, oS1] a w := by
  simp only [Prod.mk.injEq] at gd ds
  obtain ⟨gA, gM, gE0, gE1, gL0, gL1, gS0, gS1⟩ := gd
  obtain ⟨tA, tM, tE0, tE1, tL0, tL1, tS0, tS1⟩ := ds
  obtain ⟨n, hn, nA, nM, ne0, ne1, nd0, nd1⟩ := hsz
  simp only [List.nodup_cons, List.mem_cons, List.not_mem_nil, or_false, not_or] at hne
  obtain ⟨⟨qAM, qA0, qA1, qAd0, qAd1⟩, ⟨qM0, qM1, qMd0, qMd1⟩, ⟨q01, q0d0, q0d1⟩, ⟨q1d0, q1d1⟩, qdd, -⟩ := hne
  have ap : ∀ {x d : Nat}, x ≠ d → apartX (.tmp x) d = true := fun h => by simpa [apartX] using h
  refine wpList_calls gA (run_appT a w pA h1 h2 h3 h4) ?_
  refine (apply_any (most := most) (now := now) hI hF hN hBd ck (hv.below hB.1.1)).mono ?_
  rw [hr]
  rintro e W ⟨a2, n2, c2, rfl, hrw, hbw⟩
  have hb := hB.call hrw hbw
  have hr0 : Rw (fun b => w.heap.size ≤ b ∧ b < W.heap.size) W (.slice a2 n2 c2) s2.its := hrw
  clear hrw hbw
  refine ⟨_, rfl, ?_⟩
  rw [tA]
  change wpList _ _ _ _ (a.put (some dA) (.tuple #[.agg (stv (.slice a2 n2 c2) s2).toArray, an.v])) W
  have k1 : (a.put (some dA) (.tuple #[.agg (stv (.slice a2 n2 c2) s2).toArray, an.v])).eval (.tmp dA) = (.tuple #[.agg (stv (.slice a2 n2 c2) s2).toArray, an.v]) := put_same _ (by omega) _
  refine wpList_val (v := (.tuple #[.agg (stv (.slice a2 n2 c2) s2).toArray, an.v])) (w' := W) gM (by unfold execOp; rw [pM]; dsimp only; rw [k1]; rfl) ?_
  rw [tM]
  have k2 : ((a.put (some dA) (.tuple #[.agg (stv (.slice a2 n2 c2) s2).toArray, an.v])).put (some dM) (.tuple #[.agg (stv (.slice a2 n2 c2) s2).toArray, an.v])).eval (.tmp dM) = (.tuple #[.agg (stv (.slice a2 n2 c2) s2).toArray, an.v]) := put_same _ (by simp only [put_size]; omega) _
  refine wpList_val (v := .agg (stv (.slice a2 n2 c2) s2).toArray) (w' := W) gE0 (by unfold execOp; rw [pE0]; dsimp only; rw [k2]; rfl) ?_
  rw [tE0]
  have k3 : (((a.put (some dA) (.tuple #[.agg (stv (.slice a2 n2 c2) s2).toArray, an.v])).put (some dM) (.tuple #[.agg (stv (.slice a2 n2 c2) s2).toArray, an.v])).put (some e0) (.agg (stv (.slice a2 n2 c2) s2).toArray)).eval (.tmp dM) = (.tuple #[.agg (stv (.slice a2 n2 c2) s2).toArray, an.v]) := by rw [put_eval _ (ap qM0)]; exact k2
  refine wpList_val (v := an.v) (w' := W) gE1 (by unfold execOp; rw [pE1]; dsimp only; rw [k3]; rfl) ?_
  rw [tE1]
  have k4 : ((((a.put (some dA) (.tuple #[.agg (stv (.slice a2 n2 c2) s2).toArray, an.v])).put (some dM) (.tuple #[.agg (stv (.slice a2 n2 c2) s2).toArray, an.v])).put (some e0) (.agg (stv (.slice a2 n2 c2) s2).toArray)).put (some e1) an.v).eval (.tmp e0) = .agg (stv (.slice a2 n2 c2) s2).toArray := by rw [put_eval _ (ap q01)]; exact put_same _ (by simp only [put_size]; omega) _
  have k5 : ((((a.put (some dA) (.tuple #[.agg (stv (.slice a2 n2 c2) s2).toArray, an.v])).put (some dM) (.tuple #[.agg (stv (.slice a2 n2 c2) s2).toArray, an.v])).put (some e0) (.agg (stv (.slice a2 n2 c2) s2).toArray)).put (some e1) an.v).eval (.tmp e1) = .agg an.cells.toArray := put_same _ (by simp only [put_size]; omega) _
  generalize hX : ((((a.put (some dA) (.tuple #[.agg (stv (.slice a2 n2 c2) s2).toArray, an.v])).put (some dM) (.tuple #[.agg (stv (.slice a2 n2 c2) s2).toArray, an.v])).put (some e0) (.agg (stv (.slice a2 n2 c2) s2).toArray)).put (some e1) an.v) = X at *
  have hs : X.tmps.size = n := by rw [← hX]; simp only [put_size]; exact hn
  refine wpList_val gL0 (run_sta X W pL0) ?_
  rw [tL0]
  have hb1 := hb.new zST 25
  have hr1 := hr0.below (abelow W (.cells zST 25))
  generalize hW1 : W.alloc (.cells zST 25) = W1 at *
  have hsz1 : W1.heap.size = W.heap.size + 1 := by rw [← hW1, World.size_alloc]
  refine wpList_val gL1 (run_ans _ W1 pL1) ?_
  rw [tL1]
  have hb2 := hb1.new zAN 35
  rw [hsz1] at hb2 ⊢
  have hr2 := (hr1.below (abelow W1 (.cells zAN 35))).mono (H := fun b => w.heap.size ≤ b ∧ b ≠ W.heap.size ∧ b ≠ W.heap.size + 1) (fun b hb => ⟨hb.1, by have := hb.2; omega, by have := hb.2; omega⟩)
  generalize W1.alloc (.cells zAN 35) = W2 at *
  have r0 : ((X.put (some d0) (.pointer (some ⟨W.heap.size, 0, none⟩))).put (some d1) (.pointer (some ⟨W.heap.size + 1, 0, none⟩))).eval (.tmp d0) = .pointer (some ⟨W.heap.size, 0, none⟩) := by rw [put_eval _ (ap qdd)]; exact put_same _ (by omega) _
  have r1 : ((X.put (some d0) (.pointer (some ⟨W.heap.size, 0, none⟩))).put (some d1) (.pointer (some ⟨W.heap.size + 1, 0, none⟩))).eval (.tmp d1) = .pointer (some ⟨W.heap.size + 1, 0, none⟩) := put_same _ (by simp only [put_size]; omega) _
  have r2 : ((X.put (some d0) (.pointer (some ⟨W.heap.size, 0, none⟩))).put (some d1) (.pointer (some ⟨W.heap.size + 1, 0, none⟩))).eval (.tmp e0) = .agg (stv (.slice a2 n2 c2) s2).toArray := by rw [put_eval _ (ap q0d1), put_eval _ (ap q0d0)]; exact k4
  have r3 : ((X.put (some d0) (.pointer (some ⟨W.heap.size, 0, none⟩))).put (some d1) (.pointer (some ⟨W.heap.size + 1, 0, none⟩))).eval (.tmp e1) = .agg an.cells.toArray := by rw [put_eval _ (ap q1d1), put_eval _ (ap q1d0)]; exact k5
  refine wpList_stor gS0 tS0 pS0 r0 r2 (hb2.1.get 1 rfl) rfl (by kernel_rfl) rfl ?_
  have hb3 := hb2.setc 1 (vs := stv (.slice a2 n2 c2) s2) rfl rfl
  refine wpList_stor gS1 tS1 pS1 r1 r3 (hb3.1.get 0 rfl) rfl (by kernel_rfl) rfl ?_
  have hb4 := hb3.setc 0 (vs := an.cells) rfl rfl
  have hr3 := (hr2.only (only_setCells (b := W.heap.size) (stv (.slice a2 n2 c2) s2) 0 W2) (fun b hb e => hb.2.1 e)).only (only_setCells (b := W.heap.size + 1) an.cells 0 _) (fun b hb e => hb.2.2 e)
  have := fin _ a2 n2 c2 _ hb4 hr3
  rw [hX] at this
  exact this
end
end Go.Proofs.YtpgljahomeebhaaDoor.Md
