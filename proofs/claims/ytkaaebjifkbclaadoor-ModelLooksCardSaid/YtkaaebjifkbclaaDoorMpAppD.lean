/-
  A law's region 's, a := model.Apply(s, now, c, most)' that draws its order, with two boxes. No conditions.
-/
import Derived.Test.YtkaaebjifkbclaaDoorMpGet2
import Derived.Test.YtkaaebjifkbclaaDoorMdDiaA
namespace Go.Proofs.YtkaaebjifkbclaaDoor.Md
open Go Go.RowKit Go.Lib
section
variable {ops : Array Oper} {Q : Exit → Act → World → Prop} {st : Nat}
set_option maxHeartbeats 1000000 in
theorem appd2 {w0 w : World} {c : Cm} {bs : List (Nat × TypeId × List Value)} {rs : List (Value × List It)} {s s2 : Ms} {a0 : Option Addr} {n0 c0 N B : Nat} {now most : Int} {an : An} (l : Array Bool) (a : Act) (A M E0 E1 L0 L1 S0 S1 : Nat)
    {oA oM oE0 oE1 oL0 oL1 oS0 oS1 : Oper} {dA dM e0 e1 d0 d1 : Nat} {y1 y2 y3 : Operand}
    (hB : Bxr w0 bs rs w) {S : World → Prop} (hS : ∀ bs2 rs2 W, Bxr w0 bs2 rs2 W → (∀ x ∈ bs, x ∈ bs2) → S W) (hsr : (.slice a0 n0 c0, s.its) ∈ rs) (hF : Fit N B s) (hN : N ≤ 4194304) (hBd : B ≤ 1048576) (ck : c.Ok) (hv : Nu.Vars w0) (hr : apply s now c most = (s2, an))
    (iA : ops[A]? = some oA) (iM : ops[M]? = some oM) (iE0 : ops[E0]? = some oE0) (iE1 : ops[E1]? = some oE1) (iL0 : ops[L0]? = some oL0) (iL1 : ops[L1]? = some oL1) (iS0 : ops[S0]? = some oS0) (iS1 : ops[S1]? = some oS1)
    (gd : (oA.guard, oM.guard, oE0.guard, oE1.guard, oL0.guard, oL1.guard) = (none, none, none, none, none, none))
    (ds : (oA.dst, oM.dst, oE0.dst, oE1.dst, oL0.dst, oL1.dst) = (some dA, some dM, some e0, some e1, some d0, some d1))
    (gs : (oS0.guard, oS1.guard, oS0.dst, oS1.dst) = (none, none, none, none))
    (pM : oM.op = .move (.tmp dA)) (pE0 : oE0.op = .extract (.tmp dM) 0) (pE1 : oE1.op = .extract (.tmp dM) 1)
    (pS0 : oS0.op = .store 25 (.tmp d0) (.tmp e0)) (pS1 : oS1.op = .store 35 (.tmp d1) (.tmp e1))
    (hok : diaAOk .any ops l st A M E0 E1 L0 L1 = true)
    (hne : [d0, d1, dA, dM, e0, e1].Nodup)
    (hap : (apartX y1 d0 && (apartX y1 d1 && (apartX y2 d0 && (apartX y2 d1 && (apartX y3 d0 && apartX y3 d1))))) = true)
    (hsz : ∃ n, a.tmps.size = n ∧ dA < n ∧ dM < n ∧ e0 < n ∧ e1 < n ∧ d1 < n ∧ d0 < n)
    (h1 : a.eval y1 = .agg (stv (.slice a0 n0 c0) s).toArray) (h2 : a.eval y2 = .int .i64 now) (h3 : a.eval y3 = c.v)
    (rA : oA.op = .call { callee := .value (.func 17), args := #[y1, y2, y3, .const (.int .i64 most)], argTypes := #[25, 2, 28, 3] })
    (r0 : oL0.op = .alloc 25)
    (r1 : oL1.op = .alloc 35)
    (hQ : ∀ (d : Nat) c b v W, Q (.panic c) (b.put (some d) v) W → Q (.panic c) b W)
    (q1 : Region.ready .any ops (setAll l [A, M, E0, E1, L0, L1]) = [S0]) (q2 : Region.ready .any ops (setAll l ([A, M, E0, E1, L0, L1] ++ [S0])) = [S1]) (q3 : Region.ready .any ops (setAll l ([A, M, E0, E1, L0, L1] ++ [S0, S1])) = [])
    (fin : ∀ b0 b1 a2 n2 c2 W, Bxr w0 ((b1, 35, an.cells) :: (b0, 25, stv (.slice a2 n2 c2) s2) :: bs) ((.slice a2 n2 c2, s2.its) :: rs) W → Q .normal ((((((a.put (some dA) (.tuple #[.agg (stv (.slice a2 n2 c2) s2).toArray, an.v])).put (some dM) (.tuple #[.agg (stv (.slice a2 n2 c2) s2).toArray, an.v])).put (some e0) (.agg (stv (.slice a2 n2 c2) s2).toArray)).put (some e1) an.v).put (some d0) (.pointer (some ⟨b0, 0, none⟩))).put (some d1) (.pointer (some ⟨b1, 0, none⟩))) W) :
    wpAnyE Tryd.prog .any ops Q S st 8 l a w := by
  simp only [Prod.mk.injEq] at gs
  obtain ⟨gS0, gS1, tS0, tS1⟩ := gs
  obtain ⟨n, hn, z2, z3, z4, z5, z6, z7⟩ := hsz
  have bm : ∀ {p q : Option Nat} {rs2 : List (Value × List It)} {W : World}, Bxr w0 (ob 35 zAN.toList q ++ (ob 25 zST.toList p ++ bs)) rs2 W → S W := fun {p q} {rs2} {W} h => hS _ _ _ h (fun x hx => by simp [hx])
  have bn0 : ∀ {q : Option Nat} {rs2 : List (Value × List It)} {W : World}, Bxr w0 (ob 35 zAN.toList q ++ (ob 25 zST.toList none ++ bs)) rs2 W → Bxr w0 (ob 35 zAN.toList q ++ (ob 25 zST.toList (some W.heap.size) ++ bs)) rs2 (W.alloc (.cells zST 25)) := fun {q} {rs2} {W} h => by
    cases q with
    | none => exact h.new zST 25
    | some b => exact (h.new zST 25).swap
  have bn1 : ∀ {p : Option Nat} {rs2 : List (Value × List It)} {W : World}, Bxr w0 (ob 35 zAN.toList none ++ (ob 25 zST.toList p ++ bs)) rs2 W → Bxr w0 (ob 35 zAN.toList (some W.heap.size) ++ (ob 25 zST.toList p ++ bs)) rs2 (W.alloc (.cells zAN 35)) := fun h => h.new zAN 35
  refine diaA (R := Option Addr × Nat × Nat) 2 l a w A M E0 E1 L0 L1 (fun r => .agg (stv (.slice r.1 r.2.1 r.2.2) s2).toArray) (fun _ => an.v) (.cells zST 25) (.cells zAN 35)
    (fun p q W => Bxr w0 (ob 35 zAN.toList q ++ (ob 25 zST.toList p ++ bs)) rs W) (fun r p q W => Bxr w0 (ob 35 zAN.toList q ++ (ob 25 zST.toList p ++ bs)) ((.slice r.1 r.2.1 r.2.2, s2.its) :: rs) W)
    iA iM iE0 iE1 iL0 iL1 gd ds pM pE0 pE1 hok hne hap ⟨n, hn, z2, z3⟩ h1 h2 h3 (fun b W g1 g2 g3 => run_app b W rA g1 g2 g3) (fun b W => run_sta b W r0) (fun b W => run_ans b W r1) hQ
    (fun _ _ _ h => bm h) (fun _ _ _ _ h => bm h) (fun _ _ h => bn0 h) (fun _ _ _ h => bn0 h) (fun _ _ h => bn1 h) (fun _ _ _ h => bn1 h) (fun p q W h => ?_) hB (fun r b0 b1 W h => ?_)
  · obtain ⟨ir, hir⟩ := List.getElem?_of_mem hsr
    refine (apply_bx (now := now) (c := c) (most := most) h (h.its ir hir) hF hN hBd ck hv hr (cs := an.cells.toArray) rfl).mono ?_
    rintro e W2 ⟨a2, n2, c2, rfl, hb⟩
    exact ⟨(a2, n2, c2), rfl, hb⟩
  · obtain ⟨a2, n2, c2⟩ := r
    dsimp only at h ⊢
    simp only [List.nodup_cons, List.mem_cons, List.not_mem_nil, or_false, not_or] at hne
    obtain ⟨⟨n01, n0A, n0M, n0e0, n0e1⟩, ⟨n1A, n1M, n1e0, n1e1⟩, ⟨nAM, -, -⟩, ⟨nMe0, nMe1⟩, ne01, -⟩ := hne
    have v0 : (((((((a.put (some dA) (.tuple #[.agg (stv (.slice a2 n2 c2) s2).toArray, an.v])).put (some dM) (.tuple #[.agg (stv (.slice a2 n2 c2) s2).toArray, an.v])).put (some e0) (.agg (stv (.slice a2 n2 c2) s2).toArray)).put (some e1) an.v).put (some d0) (.pointer (some ⟨b0, 0, none⟩))).put (some d1) (.pointer (some ⟨b1, 0, none⟩)))).eval (.tmp d0) = .pointer (some ⟨b0, 0, none⟩) := by rw [put_eval _ (by simpa [apartX] using n01), put_same _ (by simp only [put_size]; omega)]
    have v1 : (((((((a.put (some dA) (.tuple #[.agg (stv (.slice a2 n2 c2) s2).toArray, an.v])).put (some dM) (.tuple #[.agg (stv (.slice a2 n2 c2) s2).toArray, an.v])).put (some e0) (.agg (stv (.slice a2 n2 c2) s2).toArray)).put (some e1) an.v).put (some d0) (.pointer (some ⟨b0, 0, none⟩))).put (some d1) (.pointer (some ⟨b1, 0, none⟩)))).eval (.tmp d1) = .pointer (some ⟨b1, 0, none⟩) := by rw [put_same _ (by simp only [put_size]; omega)]
    have v2 : (((((((a.put (some dA) (.tuple #[.agg (stv (.slice a2 n2 c2) s2).toArray, an.v])).put (some dM) (.tuple #[.agg (stv (.slice a2 n2 c2) s2).toArray, an.v])).put (some e0) (.agg (stv (.slice a2 n2 c2) s2).toArray)).put (some e1) an.v).put (some d0) (.pointer (some ⟨b0, 0, none⟩))).put (some d1) (.pointer (some ⟨b1, 0, none⟩)))).eval (.tmp e0) = .agg (stv (.slice a2 n2 c2) s2).toArray := by rw [put_eval _ (by simpa [apartX] using Ne.symm n1e0), put_eval _ (by simpa [apartX] using Ne.symm n0e0), put_eval _ (by simpa [apartX] using ne01), put_same _ (by simp only [put_size]; omega)]
    have v3 : (((((((a.put (some dA) (.tuple #[.agg (stv (.slice a2 n2 c2) s2).toArray, an.v])).put (some dM) (.tuple #[.agg (stv (.slice a2 n2 c2) s2).toArray, an.v])).put (some e0) (.agg (stv (.slice a2 n2 c2) s2).toArray)).put (some e1) an.v).put (some d0) (.pointer (some ⟨b0, 0, none⟩))).put (some d1) (.pointer (some ⟨b1, 0, none⟩)))).eval (.tmp e1) = .agg an.cells.toArray := by rw [put_eval _ (by simpa [apartX] using Ne.symm n1e1), put_eval _ (by simpa [apartX] using Ne.symm n0e1), put_same _ (by simp only [put_size]; omega)]; rfl
    have h : Bxr w0 ((b1, 35, zAN.toList) :: (b0, 25, zST.toList) :: bs) ((.slice a2 n2 c2, s2.its) :: rs) W := h
    have hb1 := h.setc 1 (vs := stv (.slice a2 n2 c2) s2) rfl rfl
    have hb2 := hb1.setc 0 (vs := an.cells) rfl rfl
    have k0 := h.1.get 1 rfl
    have k1 := hb1.1.get 0 rfl
    refine store_one (S := S) iS0 gS0 tS0 pS0 q1 v0 v2 k0 rfl (by kernel_rfl) rfl (fun _ => ?_) ?_
    · exact hS _ _ _ hb1 (fun x hx => by simp [hx])
    rw [setAll_snoc]
    refine store_one (S := S) iS1 gS1 tS1 pS1 q2 v1 v3 k1 rfl (by kernel_rfl) rfl (fun _ => ?_) ?_
    · exact hS _ _ _ hb2 (fun x hx => by simp [hx])
    rw [setAll_snoc]
    exact wpAnyE_done q3 (fin b0 b1 a2 n2 c2 _ hb2) _
end
end Go.Proofs.YtkaaebjifkbclaaDoor.Md
