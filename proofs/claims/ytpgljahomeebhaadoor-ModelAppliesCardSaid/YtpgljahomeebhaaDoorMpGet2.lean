/-
  The laws' 'Apply(s, now, get(key), most)' with the boxes of what it tells, in whatever order the region draws. No conditions.
-/
import Derived.Test.YtpgljahomeebhaaDoorM6
import Derived.Test.YtpgljahomeebhaaDoorMdDia
namespace Go.Proofs.YtpgljahomeebhaaDoor.Md
open Go Go.RowKit Go.Lib

def ob (t : TypeId) (z : List Value) : Option Nat → List (Nat × TypeId × List Value)
  | none => []
  | some b => [(b, t, z)]
def zST : Array Value := #[.slice none 0 0, .int .u64 0, .int .i64 0]
def zAN : Array Value := #[.int .i64 0, .string ⟨#[]⟩, .int .u32 0, .string ⟨#[]⟩, .int .i64 0, .int .u64 0, .int .i64 0, .bool false, .bool false, .int .u64 0, .bool false, .bool false, .bool false]
def stv (v : Value) (s : Ms) : List Value := [v, .int .u64 s.cas, .int .i64 s.fl]
theorem Bxr.blk {w0 w : World} {bs : List (Nat × TypeId × List Value)} {rs : List (Value × List It)} (h : Bxr w0 bs rs w) {b : Nat} {t : TypeId} {cs : List Value} (hm : (b, t, cs) ∈ bs) : Blk w b t cs := (h.1.2.1 _ hm).1
theorem run_sta (b : Act) (W : World) {o : Oper} (h : o.op = .alloc 25) : (execOp b.eval o).run Tryd.prog W = .ok (.value (.pointer (some ⟨W.heap.size, 0, none⟩))) (W.alloc (.cells zST 25)) := by
  unfold execOp
  rw [h]
  dsimp only
  kernel_rfl
theorem run_ans (b : Act) (W : World) {o : Oper} (h : o.op = .alloc 35) : (execOp b.eval o).run Tryd.prog W = .ok (.value (.pointer (some ⟨W.heap.size, 0, none⟩))) (W.alloc (.cells zAN 35)) := by
  unfold execOp
  rw [h]
  dsimp only
  kernel_rfl
theorem run_getc (b : Act) (W : World) {o : Oper} {x : Operand} {k : ByteArray} (h : o.op = .call { callee := .value (.func 19), args := #[x], argTypes := #[9] }) (hx : b.eval x = .string k) : (execOp b.eval o).run Tryd.prog W = .ok (.enter 19 #[.string k]) W := by
  unfold execOp
  rw [h]
  dsimp only
  unfold resolve
  dsimp only
  rw [show (#[x].map b.eval) = #[b.eval x] by simp, hx]
  kernel_rfl
theorem run_app (b : Act) (W : World) {o : Oper} {x y z : Operand} {m : Value} {v1 v2 v3 : Value} (h : o.op = .call { callee := .value (.func 17), args := #[x, y, z, .const m], argTypes := #[25, 2, 28, 3] }) (hx : b.eval x = v1) (hy : b.eval y = v2) (hz : b.eval z = v3) : (execOp b.eval o).run Tryd.prog W = .ok (.enter 17 #[v1, v2, v3, m]) W := by
  unfold execOp
  rw [h]
  dsimp only
  unfold resolve
  dsimp only
  rw [show (#[x, y, z, .const m].map b.eval) = #[b.eval x, b.eval y, b.eval z, m] by simp [Act.eval], hx, hy, hz]
  kernel_rfl
section
variable {ops : Array Oper} {Q : Exit → Act → World → Prop} {st : Nat}
theorem store_one {l : Array Bool} {a : Act} {W : World} {S : World → Prop} {i n : Nat} {o : Oper} {x y : Nat} {ty : TypeId} {b : Nat} {cs cs' : List Value} (hi : ops[i]? = some o) (hg : o.guard = none) (hd : o.dst = none) (ho : o.op = .store ty (.tmp x) (.tmp y)) (hr : Region.ready .any ops l = [i])
    (hx : a.eval (.tmp x) = .pointer (some ⟨b, 0, none⟩)) (hy : a.eval (.tmp y) = .agg cs.toArray) (hb : Blk W b ty cs') (hl : cs'.length = cs.length) (hinfo : (Tryd.prog.info? ty).map (·.size) = some cs.length) (h1 : cs.all (·.oneCell') = true)
    (hS : (l.setIfInBounds i true).getD st true = false → S (W.setCells b 0 cs)) (h : wpAnyE Tryd.prog .any ops Q S st n (l.setIfInBounds i true) a (W.setCells b 0 cs)) : wpAnyE Tryd.prog .any ops Q S st (n + 1) l a W := by
  refine wpAnyE_one (i := i) hi hr (fun K hK => ?_)
  refine step_store_mid hg ty (.tmp x) (.tmp y) ho b 0 cs.toArray hx hy (Blk.there hb (by simp [hl])) (by simpa using hinfo) (ones h1) ?_
  rw [hd]
  exact hK _ _ hS h
set_option maxHeartbeats 1000000 in
theorem get2 {w0 w : World} {bs : List (Nat × TypeId × List Value)} {rs : List (Value × List It)} {s s2 : Ms} {a0 : Option Addr} {n0 c0 sb N B : Nat} {k : ByteArray} {now most : Int} {an : An} (l : Array Bool) (a : Act) (G A M E0 E1 L0 L1 S0 S1 : Nat)
    {oG oA oM oE0 oE1 oL0 oL1 oS0 oS1 : Oper} {dG dA dM e0 e1 d0 d1 : Nat} {xG y1 y2 : Operand}
    (hB : Bxr w0 bs rs w) (hsb : (sb, 25, stv (.slice a0 n0 c0) s) ∈ bs) (hsr : (.slice a0 n0 c0, s.its) ∈ rs) (hF : Fit N B s) (hN : N ≤ 4194304) (hBd : B ≤ 1048576) (hv : Nu.Vars w0) (hr : apply s now (cGet k) most = (s2, an))
    (iG : ops[G]? = some oG) (iA : ops[A]? = some oA) (iM : ops[M]? = some oM) (iE0 : ops[E0]? = some oE0) (iE1 : ops[E1]? = some oE1) (iL0 : ops[L0]? = some oL0) (iL1 : ops[L1]? = some oL1) (iS0 : ops[S0]? = some oS0) (iS1 : ops[S1]? = some oS1)
    (gd : (oG.guard, oA.guard, oM.guard, oE0.guard, oE1.guard, oL0.guard, oL1.guard) = (none, none, none, none, none, none, none))
    (ds : (oG.dst, oA.dst, oM.dst, oE0.dst, oE1.dst, oL0.dst, oL1.dst) = (some dG, some dA, some dM, some e0, some e1, some d0, some d1))
    (gs : (oS0.guard, oS1.guard, oS0.dst, oS1.dst) = (none, none, none, none))
    (pM : oM.op = .move (.tmp dA)) (pE0 : oE0.op = .extract (.tmp dM) 0) (pE1 : oE1.op = .extract (.tmp dM) 1)
    (pS0 : oS0.op = .store 25 (.tmp d0) (.tmp e0)) (pS1 : oS1.op = .store 35 (.tmp d1) (.tmp e1))
    (hok : diaOk .any ops l st G A M E0 E1 L0 L1 = true)
    (hne : [d0, d1, dG].Nodup ∧ [d0, d1, dA, dM, e0, e1].Nodup)
    (hap : (apartX xG d0 && (apartX xG d1 && (apartX y1 d0 && (apartX y1 d1 && (apartX y1 dG && (apartX y2 d0 && (apartX y2 d1 && apartX y2 dG))))))) = true)
    (hsz : ∃ n, a.tmps.size = n ∧ dG < n ∧ dA < n ∧ dM < n ∧ e0 < n ∧ e1 < n ∧ d1 < n ∧ d0 < n)
    (hx : a.eval xG = .string k) (h1 : a.eval y1 = .agg (stv (.slice a0 n0 c0) s).toArray) (h2 : a.eval y2 = .int .i64 now)
    (rG : oG.op = .call { callee := .value (.func 19), args := #[xG], argTypes := #[9] })
    (rA : oA.op = .call { callee := .value (.func 17), args := #[y1, y2, .tmp dG, .const (.int .i64 most)], argTypes := #[25, 2, 28, 3] })
    (r0 : oL0.op = .alloc 25)
    (r1 : oL1.op = .alloc 35)
    (hQ : ∀ (d : Nat) c b v W, Q (.panic c) (b.put (some d) v) W → Q (.panic c) b W)
    (q1 : Region.ready .any ops (setAll l [G, A, M, E0, E1, L0, L1]) = [S0]) (q2 : Region.ready .any ops (setAll l ([G, A, M, E0, E1, L0, L1] ++ [S0])) = [S1]) (q3 : Region.ready .any ops (setAll l ([G, A, M, E0, E1, L0, L1] ++ [S0, S1])) = [])
    (fin : ∀ b0 b1 a2 n2 c2 W, Bxr w0 ((b1, 35, an.cells) :: (b0, 25, stv (.slice a2 n2 c2) s2) :: bs) ((.slice a2 n2 c2, s2.its) :: rs) W → Q .normal (((((((a.put (some dG) (cGet k).v).put (some dA) (.tuple #[.agg (stv (.slice a2 n2 c2) s2).toArray, an.v])).put (some dM) (.tuple #[.agg (stv (.slice a2 n2 c2) s2).toArray, an.v])).put (some e0) (.agg (stv (.slice a2 n2 c2) s2).toArray)).put (some e1) an.v).put (some d0) (.pointer (some ⟨b0, 0, none⟩))).put (some d1) (.pointer (some ⟨b1, 0, none⟩))) W) :
    wpAnyE Tryd.prog .any ops Q (fun W => Blk W sb 25 (stv (.slice a0 n0 c0) s)) st 9 l a w := by
  simp only [Prod.mk.injEq] at gs
  obtain ⟨gS0, gS1, tS0, tS1⟩ := gs
  obtain ⟨n, hn, z1, z2, z3, z4, z5, z6, z7⟩ := hsz
  have bm : ∀ {p q : Option Nat} {rs2 : List (Value × List It)} {W : World}, Bxr w0 (ob 35 zAN.toList q ++ (ob 25 zST.toList p ++ bs)) rs2 W → Blk W sb 25 (stv (.slice a0 n0 c0) s) := fun {p q} {rs2} {W} h => h.blk (by simp [hsb])
  have bn0 : ∀ {q : Option Nat} {rs2 : List (Value × List It)} {W : World}, Bxr w0 (ob 35 zAN.toList q ++ (ob 25 zST.toList none ++ bs)) rs2 W → Bxr w0 (ob 35 zAN.toList q ++ (ob 25 zST.toList (some W.heap.size) ++ bs)) rs2 (W.alloc (.cells zST 25)) := fun {q} {rs2} {W} h => by
    cases q with
    | none => exact h.new zST 25
    | some b => exact (h.new zST 25).swap
  have bn1 : ∀ {p : Option Nat} {rs2 : List (Value × List It)} {W : World}, Bxr w0 (ob 35 zAN.toList none ++ (ob 25 zST.toList p ++ bs)) rs2 W → Bxr w0 (ob 35 zAN.toList (some W.heap.size) ++ (ob 25 zST.toList p ++ bs)) rs2 (W.alloc (.cells zAN 35)) := fun h => h.new zAN 35
  refine dia (R := Option Addr × Nat × Nat) (vG := (cGet k).v) 2 l a w G A M E0 E1 L0 L1 (fun r => .agg (stv (.slice r.1 r.2.1 r.2.2) s2).toArray) (fun _ => an.v) (.cells zST 25) (.cells zAN 35)
    (fun p q W => Bxr w0 (ob 35 zAN.toList q ++ (ob 25 zST.toList p ++ bs)) rs W) (fun p q W => Bxr w0 (ob 35 zAN.toList q ++ (ob 25 zST.toList p ++ bs)) rs W) (fun r p q W => Bxr w0 (ob 35 zAN.toList q ++ (ob 25 zST.toList p ++ bs)) ((.slice r.1 r.2.1 r.2.2, s2.its) :: rs) W)
    iG iA iM iE0 iE1 iL0 iL1 gd ds pM pE0 pE1 hok hne hap ⟨n, hn, z1, z2, z3⟩ hx h1 h2 (fun b W h => run_getc b W rG h) (fun b W g1 g2 g3 => run_app b W rA g1 g2 g3) (fun b W => run_sta b W r0) (fun b W => run_ans b W r1) hQ
    (fun _ _ _ h => bm h) (fun _ _ _ h => bm h) (fun _ _ _ _ h => bm h) (fun _ _ h => bn0 h) (fun _ _ h => bn0 h) (fun _ _ _ h => bn0 h) (fun _ _ h => bn1 h) (fun _ _ h => bn1 h) (fun _ _ _ h => bn1 h) (fun p q W h => ?_) (fun p q W h => ?_) hB (fun r b0 b1 W h => ?_)
  · refine (get_any k W).mono ?_
    rintro e W2 ⟨rfl, hb⟩
    exact ⟨rfl, h.step hb⟩
  · obtain ⟨ir, hir⟩ := List.getElem?_of_mem hsr
    refine (apply_bx (now := now) (c := cGet k) (most := most) h (h.its ir hir) hF hN hBd (cget_ok k) hv hr (cs := an.cells.toArray) rfl).mono ?_
    rintro e W2 ⟨a2, n2, c2, rfl, hb⟩
    exact ⟨(a2, n2, c2), rfl, hb⟩
  · obtain ⟨a2, n2, c2⟩ := r
    dsimp only at h ⊢
    simp only [List.nodup_cons, List.mem_cons, List.not_mem_nil, or_false, not_or] at hne
    obtain ⟨⟨⟨n01, n0G⟩, n1G, -⟩, ⟨⟨-, n0A, n0M, n0e0, n0e1⟩, ⟨n1A, n1M, n1e0, n1e1⟩, ⟨nAM, -, -⟩, ⟨nMe0, nMe1⟩, ne01, -⟩⟩ := hne
    have v0 : ((((((((a.put (some dG) (cGet k).v).put (some dA) (.tuple #[.agg (stv (.slice a2 n2 c2) s2).toArray, an.v])).put (some dM) (.tuple #[.agg (stv (.slice a2 n2 c2) s2).toArray, an.v])).put (some e0) (.agg (stv (.slice a2 n2 c2) s2).toArray)).put (some e1) an.v).put (some d0) (.pointer (some ⟨b0, 0, none⟩))).put (some d1) (.pointer (some ⟨b1, 0, none⟩)))).eval (.tmp d0) = .pointer (some ⟨b0, 0, none⟩) := by rw [put_eval _ (by simpa [apartX] using n01), put_same _ (by simp only [put_size]; omega)]
    have v1 : ((((((((a.put (some dG) (cGet k).v).put (some dA) (.tuple #[.agg (stv (.slice a2 n2 c2) s2).toArray, an.v])).put (some dM) (.tuple #[.agg (stv (.slice a2 n2 c2) s2).toArray, an.v])).put (some e0) (.agg (stv (.slice a2 n2 c2) s2).toArray)).put (some e1) an.v).put (some d0) (.pointer (some ⟨b0, 0, none⟩))).put (some d1) (.pointer (some ⟨b1, 0, none⟩)))).eval (.tmp d1) = .pointer (some ⟨b1, 0, none⟩) := by rw [put_same _ (by simp only [put_size]; omega)]
    have v2 : ((((((((a.put (some dG) (cGet k).v).put (some dA) (.tuple #[.agg (stv (.slice a2 n2 c2) s2).toArray, an.v])).put (some dM) (.tuple #[.agg (stv (.slice a2 n2 c2) s2).toArray, an.v])).put (some e0) (.agg (stv (.slice a2 n2 c2) s2).toArray)).put (some e1) an.v).put (some d0) (.pointer (some ⟨b0, 0, none⟩))).put (some d1) (.pointer (some ⟨b1, 0, none⟩)))).eval (.tmp e0) = .agg (stv (.slice a2 n2 c2) s2).toArray := by rw [put_eval _ (by simpa [apartX] using Ne.symm n1e0), put_eval _ (by simpa [apartX] using Ne.symm n0e0), put_eval _ (by simpa [apartX] using ne01), put_same _ (by simp only [put_size]; omega)]
    have v3 : ((((((((a.put (some dG) (cGet k).v).put (some dA) (.tuple #[.agg (stv (.slice a2 n2 c2) s2).toArray, an.v])).put (some dM) (.tuple #[.agg (stv (.slice a2 n2 c2) s2).toArray, an.v])).put (some e0) (.agg (stv (.slice a2 n2 c2) s2).toArray)).put (some e1) an.v).put (some d0) (.pointer (some ⟨b0, 0, none⟩))).put (some d1) (.pointer (some ⟨b1, 0, none⟩)))).eval (.tmp e1) = .agg an.cells.toArray := by rw [put_eval _ (by simpa [apartX] using Ne.symm n1e1), put_eval _ (by simpa [apartX] using Ne.symm n0e1), put_same _ (by simp only [put_size]; omega)]; rfl
    have h : Bxr w0 ((b1, 35, zAN.toList) :: (b0, 25, zST.toList) :: bs) ((.slice a2 n2 c2, s2.its) :: rs) W := h
    have hb1 := h.setc 1 (vs := stv (.slice a2 n2 c2) s2) rfl rfl
    have hb2 := hb1.setc 0 (vs := an.cells) rfl rfl
    have k0 := h.1.get 1 rfl
    have k1 := hb1.1.get 0 rfl
    refine store_one (S := fun W => Blk W sb 25 (stv (.slice a0 n0 c0) s)) iS0 gS0 tS0 pS0 q1 v0 v2 k0 rfl (by kernel_rfl) rfl (fun _ => ?_) ?_
    · exact hb1.blk (by simp [hsb])
    rw [setAll_snoc]
    refine store_one (S := fun W => Blk W sb 25 (stv (.slice a0 n0 c0) s)) iS1 gS1 tS1 pS1 q2 v1 v3 k1 rfl (by kernel_rfl) rfl (fun _ => ?_) ?_
    · exact hb2.blk (by simp [hsb])
    rw [setAll_snoc]
    exact wpAnyE_done q3 (fin b0 b1 a2 n2 c2 _ hb2) _
set_option maxHeartbeats 1000000 in
theorem get1 {w0 w : World} {bs : List (Nat × TypeId × List Value)} {rs : List (Value × List It)} {s s2 : Ms} {a0 : Option Addr} {n0 c0 sb N B : Nat} {k : ByteArray} {now most : Int} {an : An} (l : Array Bool) (a : Act) (G A M E0 E1 L1 S0 S1 : Nat)
    {oG oA oM oE0 oE1 oL1 oS0 oS1 : Oper} {dG dA dM e0 e1 d1 : Nat} {xG y1 y2 : Operand}
    (hB : Bxr w0 bs rs w) (hsb : (sb, 25, stv (.slice a0 n0 c0) s) ∈ bs) (hsr : (.slice a0 n0 c0, s.its) ∈ rs) (hF : Fit N B s) (hN : N ≤ 4194304) (hBd : B ≤ 1048576) (hv : Nu.Vars w0) (hr : apply s now (cGet k) most = (s2, an))
    (iG : ops[G]? = some oG) (iA : ops[A]? = some oA) (iM : ops[M]? = some oM) (iE0 : ops[E0]? = some oE0) (iE1 : ops[E1]? = some oE1) (iL1 : ops[L1]? = some oL1) (iS0 : ops[S0]? = some oS0) (iS1 : ops[S1]? = some oS1)
    (gd : (oG.guard, oA.guard, oM.guard, oE0.guard, oE1.guard, oL1.guard) = (none, none, none, none, none, none))
    (ds : (oG.dst, oA.dst, oM.dst, oE0.dst, oE1.dst, oL1.dst) = (some dG, some dA, some dM, some e0, some e1, some d1))
    (gs : (oS0.guard, oS1.guard, oS0.dst, oS1.dst) = (none, none, none, none))
    (pM : oM.op = .move (.tmp dA)) (pE0 : oE0.op = .extract (.tmp dM) 0) (pE1 : oE1.op = .extract (.tmp dM) 1)
    (x0 : Nat) (hx0 : a.eval (.tmp x0) = .pointer (some ⟨sb, 0, none⟩)) (hx0a : (apartX (.tmp x0) dG && (apartX (.tmp x0) dA && (apartX (.tmp x0) dM && (apartX (.tmp x0) e0 && (apartX (.tmp x0) e1 && apartX (.tmp x0) d1))))) = true) (pS0 : oS0.op = .store 25 (.tmp x0) (.tmp e0)) (pS1 : oS1.op = .store 35 (.tmp d1) (.tmp e1))
    (hok : diaOk1 .any ops l st G A M E0 E1 L1 = true)
    (hne : [d1, dG].Nodup ∧ [d1, dA, dM, e0, e1].Nodup)
    (hap : (apartX xG d1 && (apartX y1 d1 && (apartX y1 dG && (apartX y2 d1 && apartX y2 dG)))) = true)
    (hsz : ∃ n, a.tmps.size = n ∧ dG < n ∧ dA < n ∧ dM < n ∧ e0 < n ∧ e1 < n ∧ d1 < n)
    (hx : a.eval xG = .string k) (h1 : a.eval y1 = .agg (stv (.slice a0 n0 c0) s).toArray) (h2 : a.eval y2 = .int .i64 now)
    (rG : oG.op = .call { callee := .value (.func 19), args := #[xG], argTypes := #[9] })
    (rA : oA.op = .call { callee := .value (.func 17), args := #[y1, y2, .tmp dG, .const (.int .i64 most)], argTypes := #[25, 2, 28, 3] })
    (r1 : oL1.op = .alloc 35)
    (hQ : ∀ (d : Nat) c b v W, Q (.panic c) (b.put (some d) v) W → Q (.panic c) b W)
    (q1 : Region.ready .any ops (setAll l [G, A, M, E0, E1, L1]) = [S0]) (q2 : Region.ready .any ops (setAll l ([G, A, M, E0, E1, L1] ++ [S0])) = [S1]) (q3 : Region.ready .any ops (setAll l ([G, A, M, E0, E1, L1] ++ [S0, S1])) = [])
    (hst : st = S0) (hS0 : S0 < l.size)
    (isb : Nat) (hisb : bs[isb]? = some (sb, 25, stv (.slice a0 n0 c0) s))
    (fin : ∀ b1 a2 n2 c2 W, Bxr w0 ((b1, 35, an.cells) :: bs.set isb (sb, 25, stv (.slice a2 n2 c2) s2)) ((.slice a2 n2 c2, s2.its) :: rs) W → Q .normal ((((((a.put (some dG) (cGet k).v).put (some dA) (.tuple #[.agg (stv (.slice a2 n2 c2) s2).toArray, an.v])).put (some dM) (.tuple #[.agg (stv (.slice a2 n2 c2) s2).toArray, an.v])).put (some e0) (.agg (stv (.slice a2 n2 c2) s2).toArray)).put (some e1) an.v).put (some d1) (.pointer (some ⟨b1, 0, none⟩))) W) :
    wpAnyE Tryd.prog .any ops Q (fun W => Blk W sb 25 (stv (.slice a0 n0 c0) s)) st 8 l a w := by
  simp only [Prod.mk.injEq] at gs
  obtain ⟨gS0, gS1, tS0, tS1⟩ := gs
  obtain ⟨n, hn, z1, z2, z3, z4, z5, z6⟩ := hsz
  have bm : ∀ {q : Option Nat} {rs2 : List (Value × List It)} {W : World}, Bxr w0 (ob 35 zAN.toList q ++ bs) rs2 W → Blk W sb 25 (stv (.slice a0 n0 c0) s) := fun {q} {rs2} {W} h => h.blk (by simp [hsb])
  have bn1 : ∀ {rs2 : List (Value × List It)} {W : World}, Bxr w0 (ob 35 zAN.toList none ++ bs) rs2 W → Bxr w0 (ob 35 zAN.toList (some W.heap.size) ++ bs) rs2 (W.alloc (.cells zAN 35)) := fun h => h.new zAN 35
  refine dia1 (R := Option Addr × Nat × Nat) (vG := (cGet k).v) 2 l a w G A M E0 E1 L1 (fun r => .agg (stv (.slice r.1 r.2.1 r.2.2) s2).toArray) (fun _ => an.v) (.cells zAN 35)
    (fun q W => Bxr w0 (ob 35 zAN.toList q ++ bs) rs W) (fun q W => Bxr w0 (ob 35 zAN.toList q ++ bs) rs W) (fun r q W => Bxr w0 (ob 35 zAN.toList q ++ bs) ((.slice r.1 r.2.1 r.2.2, s2.its) :: rs) W)
    iG iA iM iE0 iE1 iL1 gd ds pM pE0 pE1 hok hne hap ⟨n, hn, z1, z2, z3⟩ hx h1 h2 (fun b W h => run_getc b W rG h) (fun b W g1 g2 g3 => run_app b W rA g1 g2 g3) (fun b W => run_ans b W r1) hQ
    (fun _ _ h => bm h) (fun _ _ h => bm h) (fun _ _ _ h => bm h) (fun _ h => bn1 h) (fun _ h => bn1 h) (fun _ _ h => bn1 h) (fun q W h => ?_) (fun q W h => ?_) hB (fun r b1 W h => ?_)
  · refine (get_any k W).mono ?_
    rintro e W2 ⟨rfl, hb⟩
    exact ⟨rfl, h.step hb⟩
  · obtain ⟨ir, hir⟩ := List.getElem?_of_mem hsr
    refine (apply_bx (now := now) (c := cGet k) (most := most) h (h.its ir hir) hF hN hBd (cget_ok k) hv hr (cs := an.cells.toArray) rfl).mono ?_
    rintro e W2 ⟨a2, n2, c2, rfl, hb⟩
    exact ⟨(a2, n2, c2), rfl, hb⟩
  · obtain ⟨a2, n2, c2⟩ := r
    dsimp only at h ⊢
    simp only [List.nodup_cons, List.mem_cons, List.not_mem_nil, or_false, not_or] at hne
    obtain ⟨⟨n1G, -⟩, ⟨⟨n1A, n1M, n1e0, n1e1⟩, ⟨nAM, -, -⟩, ⟨nMe0, nMe1⟩, ne01, -⟩⟩ := hne
    simp only [Bool.and_eq_true] at hx0a
    obtain ⟨m0, m1, m2, m3, m4, m5⟩ := hx0a
    have v0 : (((((((a.put (some dG) (cGet k).v).put (some dA) (.tuple #[.agg (stv (.slice a2 n2 c2) s2).toArray, an.v])).put (some dM) (.tuple #[.agg (stv (.slice a2 n2 c2) s2).toArray, an.v])).put (some e0) (.agg (stv (.slice a2 n2 c2) s2).toArray)).put (some e1) an.v).put (some d1) (.pointer (some ⟨b1, 0, none⟩)))).eval (.tmp x0) = .pointer (some ⟨sb, 0, none⟩) := by rw [put_eval _ m5, put_eval _ m4, put_eval _ m3, put_eval _ m2, put_eval _ m1, put_eval _ m0]; exact hx0
    have v1 : (((((((a.put (some dG) (cGet k).v).put (some dA) (.tuple #[.agg (stv (.slice a2 n2 c2) s2).toArray, an.v])).put (some dM) (.tuple #[.agg (stv (.slice a2 n2 c2) s2).toArray, an.v])).put (some e0) (.agg (stv (.slice a2 n2 c2) s2).toArray)).put (some e1) an.v).put (some d1) (.pointer (some ⟨b1, 0, none⟩)))).eval (.tmp d1) = .pointer (some ⟨b1, 0, none⟩) := by rw [put_same _ (by simp only [put_size]; omega)]
    have v2 : (((((((a.put (some dG) (cGet k).v).put (some dA) (.tuple #[.agg (stv (.slice a2 n2 c2) s2).toArray, an.v])).put (some dM) (.tuple #[.agg (stv (.slice a2 n2 c2) s2).toArray, an.v])).put (some e0) (.agg (stv (.slice a2 n2 c2) s2).toArray)).put (some e1) an.v).put (some d1) (.pointer (some ⟨b1, 0, none⟩)))).eval (.tmp e0) = .agg (stv (.slice a2 n2 c2) s2).toArray := by rw [put_eval _ (by simpa [apartX] using Ne.symm n1e0), put_eval _ (by simpa [apartX] using ne01), put_same _ (by simp only [put_size]; omega)]
    have v3 : (((((((a.put (some dG) (cGet k).v).put (some dA) (.tuple #[.agg (stv (.slice a2 n2 c2) s2).toArray, an.v])).put (some dM) (.tuple #[.agg (stv (.slice a2 n2 c2) s2).toArray, an.v])).put (some e0) (.agg (stv (.slice a2 n2 c2) s2).toArray)).put (some e1) an.v).put (some d1) (.pointer (some ⟨b1, 0, none⟩)))).eval (.tmp e1) = .agg an.cells.toArray := by rw [put_eval _ (by simpa [apartX] using Ne.symm n1e1), put_same _ (by simp only [put_size]; omega)]; rfl
    have h : Bxr w0 ((b1, 35, zAN.toList) :: bs) ((.slice a2 n2 c2, s2.its) :: rs) W := h
    have hb1 := h.setc (isb + 1) (b := sb) (t := 25) (cs := stv (.slice a0 n0 c0) s) (vs := stv (.slice a2 n2 c2) s2) (by simpa using hisb) rfl
    have hb2 := hb1.setc 0 (vs := an.cells) rfl rfl
    have k0 : Blk W sb 25 (stv (.slice a0 n0 c0) s) := h.blk (by simp [hsb])
    have k1 := hb1.1.get 0 rfl
    refine store_one (S := fun W => Blk W sb 25 (stv (.slice a0 n0 c0) s)) iS0 gS0 tS0 pS0 q1 v0 v2 k0 rfl (by kernel_rfl) rfl (fun hh => ?_) ?_
    · exfalso
      rw [setAll_snoc, hst, Array.getD_eq_getD_getElem?, setAll_get] at hh
      rw [Array.getElem?_eq_getElem hS0] at hh
      simp at hh
    rw [setAll_snoc]
    refine store_one (S := fun W => Blk W sb 25 (stv (.slice a0 n0 c0) s)) iS1 gS1 tS1 pS1 q2 v1 v3 k1 rfl (by kernel_rfl) rfl (fun hh => ?_) ?_
    · exfalso
      rw [setAll_snoc, hst, Array.getD_eq_getD_getElem?, setAll_get] at hh
      rw [Array.getElem?_eq_getElem hS0] at hh
      simp at hh
    rw [setAll_snoc]
    exact wpAnyE_done q3 (fin b1 a2 n2 c2 _ hb2) _
end
end Go.Proofs.YtpgljahomeebhaaDoor.Md
