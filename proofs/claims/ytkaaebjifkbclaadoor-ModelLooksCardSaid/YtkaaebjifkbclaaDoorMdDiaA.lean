/-
  A region that draws its order: a call that tells two values, and two boxes for them, in whatever order (as XMdDia, without a call ahead). No program in it. No conditions.
-/
import Derived.Test.YtkaaebjifkbclaaDoorMdDia
namespace Go.Proofs.YtkaaebjifkbclaaDoor.Md
open Go Go.RowKit Go.Lib
section
variable {P : Program} {ops : Array Oper} {Q : Exit → Act → World → Prop} {md : Region.Mode} {S : World → Prop} {st : Nat}
def diaAOk (md : Region.Mode) (ops : Array Oper) (l : Array Bool) (st A M E0 E1 L0 L1 : Nat) : Bool :=
  Region.noSelect ops && (
  (rOk md ops l A L0 L1 [] && (eOk md ops l L0 L1 [A, M, E0, E1] &&
  (tOk md ops l st M L0 L1 [A] && (tOk md ops l st E0 L0 L1 [A, M] && tOk md ops l st E1 L0 L1 [A, M, E0])))))
theorem diaA {R : Type} (F : Nat) (l : Array Bool) (a : Act) (w : World) (A M E0 E1 L0 L1 : Nat) {oA oM oE0 oE1 oL0 oL1 : Oper} {dA dM e0 e1 d0 d1 : Nat} {y1 y2 y3 : Operand} {v1 v2 v3 v4 : Value} {fA : FuncId} (u0 u1 : R → Value) (z0 z1 : Obj)
    (J1 : Option Nat → Option Nat → World → Prop) (J2 : R → Option Nat → Option Nat → World → Prop)
    (iA : ops[A]? = some oA) (iM : ops[M]? = some oM) (iE0 : ops[E0]? = some oE0) (iE1 : ops[E1]? = some oE1) (iL0 : ops[L0]? = some oL0) (iL1 : ops[L1]? = some oL1)
    (gd : (oA.guard, oM.guard, oE0.guard, oE1.guard, oL0.guard, oL1.guard) = (none, none, none, none, none, none))
    (ds : (oA.dst, oM.dst, oE0.dst, oE1.dst, oL0.dst, oL1.dst) = (some dA, some dM, some e0, some e1, some d0, some d1))
    (pM : oM.op = .move (.tmp dA)) (pE0 : oE0.op = .extract (.tmp dM) 0) (pE1 : oE1.op = .extract (.tmp dM) 1)
    (hok : diaAOk md ops l st A M E0 E1 L0 L1 = true)
    (hne : [d0, d1, dA, dM, e0, e1].Nodup)
    (hap : (apartX y1 d0 && (apartX y1 d1 && (apartX y2 d0 && (apartX y2 d1 && (apartX y3 d0 && apartX y3 d1))))) = true)
    (hsz : ∃ n, a.tmps.size = n ∧ dA < n ∧ dM < n)
    (h1 : a.eval y1 = v1) (h2 : a.eval y2 = v2) (h3 : a.eval y3 = v3)
    (rA : ∀ (b : Act) W, b.eval y1 = v1 → b.eval y2 = v2 → b.eval y3 = v3 → (execOp b.eval oA).run P W = .ok (.enter fA #[v1, v2, v3, v4]) W)
    (r0 : ∀ (b : Act) (W : World), (execOp b.eval oL0).run P W = .ok (.value (.pointer (some ⟨W.heap.size, 0, none⟩))) (W.alloc z0))
    (r1 : ∀ (b : Act) (W : World), (execOp b.eval oL1).run P W = .ok (.value (.pointer (some ⟨W.heap.size, 0, none⟩))) (W.alloc z1))
    (hQ : ∀ (d : Nat) c b v W, Q (.panic c) (b.put (some d) v) W → Q (.panic c) b W)
    (s1 : ∀ p q W, J1 p q W → S W) (s2 : ∀ r p q W, J2 r p q W → S W)
    (j10 : ∀ q W, J1 none q W → J1 (some W.heap.size) q (W.alloc z0)) (j20 : ∀ r q W, J2 r none q W → J2 r (some W.heap.size) q (W.alloc z0))
    (j11 : ∀ p W, J1 p none W → J1 p (some W.heap.size) (W.alloc z1)) (j21 : ∀ r p W, J2 r p none W → J2 r p (some W.heap.size) (W.alloc z1))
    (cA : ∀ p q W, J1 p q W → Calls P fA #[v1, v2, v3, v4] W fun e W' => ∃ r, e = .returned (.tuple #[u0 r, u1 r]) ∧ J2 r p q W')
    (hJ : J1 none none w)
    (fin : ∀ r b0 b1 W, J2 r (some b0) (some b1) W → wpAnyE P md ops Q S st F (setAll l [A, M, E0, E1, L0, L1]) ((((((a.put (some dA) (.tuple #[u0 r, u1 r])).put (some dM) (.tuple #[u0 r, u1 r])).put (some e0) (u0 r)).put (some e1) (u1 r)).put (some d0) (.pointer (some ⟨b0, 0, none⟩))).put (some d1) (.pointer (some ⟨b1, 0, none⟩))) W) :
    wpAnyE P md ops Q S st (F + 6) l a w := by
  unfold diaAOk at hok
  simp only [Bool.and_eq_true] at hok
  obtain ⟨k0, k5, k6, k7, k8, k9⟩ := hok
  simp only [Bool.and_eq_true] at hap
  obtain ⟨p2, p3, p5, p6, p8, p9⟩ := hap
  obtain ⟨N, hN, nA, nM⟩ := hsz
  simp only [Prod.mk.injEq] at gd ds
  obtain ⟨gA, gM, gE0, gE1, g0, g1⟩ := gd
  obtain ⟨tA, tM, tE0, tE1, t0, t1⟩ := ds
  simp only [List.nodup_cons, List.mem_cons, List.not_mem_nil, or_false, not_or] at hne
  obtain ⟨⟨n01, n0A, n0M, n0e0, n0e1⟩, ⟨n1A, n1M, n1e0, n1e1⟩, ⟨nAM, -, -⟩, ⟨nMe0, nMe1⟩, -⟩ := hne
  have C2 : ∀ r p q W, J2 r p q W → wpAnyE P md ops Q S st (F + nb p + nb q) (setAll l ([A, M, E0, E1] ++ lsB L0 L1 p.isSome q.isSome))
      (bx (bx ((((a.put (some dA) (.tuple #[u0 r, u1 r])).put (some dM) (.tuple #[u0 r, u1 r])).put (some e0) (u0 r)).put (some e1) (u1 r)) d0 p) d1 q) W := by
    intro r p q W hj
    generalize hB : ((((a.put (some dA) (.tuple #[u0 r, u1 r])).put (some dM) (.tuple #[u0 r, u1 r])).put (some e0) (u0 r)).put (some e1) (u1 r)) = B at *
    have fin' : ∀ b0 b1 W, J2 r (some b0) (some b1) W → wpAnyE P md ops Q S st F (setAll l [A, M, E0, E1, L0, L1]) (bx (bx B d0 (some b0)) d1 (some b1)) W := fun b0 b1 W h => by
      have := fin r b0 b1 W h
      rw [hB] at this; exact this
    have ek := eOk_spec k6
    have c01 : ∀ b0 W, J2 r (some b0) none W → wpAnyE P md ops Q S st (F + 1) (setAll l ([A, M, E0, E1] ++ lsB L0 L1 true false)) (bx (bx B d0 (some b0)) d1 none) W := fun b0 W hj => by
      obtain ⟨h1, h2⟩ := ek true false rfl
      refine wpAnyE_node h1 (fun i hi => ?_)
      have hi : i = L1 := by simpa using h2 i hi
      subst hi
      refine wpOp_val iL1 g1 (r1 _ _) ?_
      have hj2 := j21 r (some b0) W hj
      refine ⟨fun _ => s2 _ _ _ _ hj2, ?_⟩
      rw [setAll_snoc, t1]
      exact fin' _ _ _ hj2
    have c10 : ∀ b1 W, J2 r none (some b1) W → wpAnyE P md ops Q S st (F + 1) (setAll l ([A, M, E0, E1] ++ lsB L0 L1 false true)) (bx (bx B d0 none) d1 (some b1)) W := fun b1 W hj => by
      obtain ⟨h1, h2⟩ := ek false true rfl
      refine wpAnyE_node h1 (fun i hi => ?_)
      have hi : i = L0 := by simpa using h2 i hi
      subst hi
      refine wpOp_val iL0 g0 (r0 _ _) ?_
      have hj2 := j20 r (some b1) W hj
      refine ⟨fun _ => s2 _ _ _ _ hj2, ?_⟩
      rw [setAll_snoc, t0, setAll_ext (b := [A, M, E0, E1, i, L1]) (fun j => by simp [lsB]; grind), bx_put _ (Ne.symm n01)]
      exact fin' _ _ _ hj2
    cases p with
    | some b0 =>
      cases q with
      | some b1 => exact fin' _ _ _ hj
      | none => exact c01 _ _ hj
    | none =>
      cases q with
      | some b1 => exact c10 _ _ hj
      | none =>
        obtain ⟨h1, h2⟩ := ek false false rfl
        refine wpAnyE_node (n := F + 1) h1 (fun i hi => ?_)
        have hi : i = L0 ∨ i = L1 := by simpa using h2 i hi
        rcases hi with rfl | rfl
        · refine wpOp_val iL0 g0 (r0 _ _) ?_
          have hj2 := j20 r none W hj
          refine ⟨fun _ => s2 _ _ _ _ hj2, ?_⟩
          show wpAnyE P md ops Q S st (F + 1) ((setAll l ([A, M, E0, E1] ++ lsB i L1 false false)).setIfInBounds i true) _ _
          rw [setAll_snoc, t0]
          exact c01 _ _ hj2
        · refine wpOp_val iL1 g1 (r1 _ _) ?_
          have hj2 := j21 r none W hj
          refine ⟨fun _ => s2 _ _ _ _ hj2, ?_⟩
          show wpAnyE P md ops Q S st (F + 1) ((setAll l ([A, M, E0, E1] ++ lsB L0 i false false)).setIfInBounds i true) _ _
          rw [setAll_snoc, t1]
          exact c10 _ _ hj2
  have C1 : ∀ p q W, J1 p q W → wpAnyE P md ops Q S st (F + 3 + 1 + nb p + nb q) (setAll l ([] ++ lsB L0 L1 p.isSome q.isSome)) (bx (bx a d0 p) d1 q) W := by
    refine boxes iL0 iL1 g0 g1 t0 t1 n01 r0 r1 s1 j10 j11 (fun _ _ => true) (rOk_spec k5) (fun p q W _ hj => ?_)
    refine wpOp_call iA gA (rA _ _ ?_ ?_ ?_) ?_
    · rw [bx_eval _ p3, bx_eval _ p2]; exact h1
    · rw [bx_eval _ p6, bx_eval _ p5]; exact h2
    · rw [bx_eval _ p9, bx_eval _ p8]; exact h3
    · refine (cA p q W hj).mono ?_
      rintro e W' ⟨r, rfl, hj2⟩
      refine ⟨_, rfl, fun _ => s2 _ _ _ _ hj2, ?_⟩
      rw [tA, show F + 3 + nb p + nb q = F + nb p + nb q + 3 by omega, setAll_snoc, setAll_ext (b := [A] ++ lsB L0 L1 p.isSome q.isSome) (fun j => by simp; grind)]
      rw [bx_put _ n1A, bx_put _ n0A]
      have hs2 : S W' := s2 _ _ _ _ hj2
      obtain ⟨m1, m2, m3⟩ := tOk_spec k7 p.isSome q.isSome
      refine wpAnyE_takeU (i := M) (v := .tuple #[u0 r, u1 r]) iM k0 m2 m1 (fun c b W h => hQ _ c b _ W (by rw [tM] at h; exact h)) m3 hs2 (.inl ⟨by simp [Region.wanted, gM], fun W2 _ => ?_⟩) ?_
      · unfold execOp
        rw [pM]
        have : (bx (bx (a.put (some dA) (.tuple #[u0 r, u1 r])) d0 p) d1 q).eval (.tmp dA) = .tuple #[u0 r, u1 r] := by
          rw [bx_eval _ (by simpa [apartX] using Ne.symm n1A), bx_eval _ (by simpa [apartX] using Ne.symm n0A), put_same _ (by first | omega | (simp only [put_size]; omega))]
        dsimp only
        rw [this]; rfl
      rw [tM, bx_put _ n1M, bx_put _ n0M, setAll_snoc, setAll_ext (b := [A, M] ++ lsB L0 L1 p.isSome q.isSome) (fun j => by simp; grind)]
      obtain ⟨m1, m2, m3⟩ := tOk_spec k8 p.isSome q.isSome
      refine wpAnyE_takeU (i := E0) (v := u0 r) iE0 k0 m2 m1 (fun c b W h => hQ _ c b _ W (by rw [tE0] at h; exact h)) m3 hs2 (.inl ⟨by simp [Region.wanted, gE0], fun W2 _ => ?_⟩) ?_
      · unfold execOp
        rw [pE0]
        have : (bx (bx ((a.put (some dA) (.tuple #[u0 r, u1 r])).put (some dM) (.tuple #[u0 r, u1 r])) d0 p) d1 q).eval (.tmp dM) = .tuple #[u0 r, u1 r] := by
          rw [bx_eval _ (by simpa [apartX] using Ne.symm n1M), bx_eval _ (by simpa [apartX] using Ne.symm n0M), put_same _ (by first | omega | (simp only [put_size]; omega))]
        dsimp only
        rw [this]; rfl
      rw [tE0, bx_put _ n1e0, bx_put _ n0e0, setAll_snoc, setAll_ext (b := [A, M, E0] ++ lsB L0 L1 p.isSome q.isSome) (fun j => by simp; grind)]
      obtain ⟨m1, m2, m3⟩ := tOk_spec k9 p.isSome q.isSome
      refine wpAnyE_takeU (i := E1) (v := u1 r) iE1 k0 m2 m1 (fun c b W h => hQ _ c b _ W (by rw [tE1] at h; exact h)) m3 hs2 (.inl ⟨by simp [Region.wanted, gE1], fun W2 _ => ?_⟩) ?_
      · unfold execOp
        rw [pE1]
        have : (bx (bx (((a.put (some dA) (.tuple #[u0 r, u1 r])).put (some dM) (.tuple #[u0 r, u1 r])).put (some e0) (u0 r)) d0 p) d1 q).eval (.tmp dM) = .tuple #[u0 r, u1 r] := by
          rw [bx_eval _ (by simpa [apartX] using Ne.symm n1M), bx_eval _ (by simpa [apartX] using Ne.symm n0M), put_eval _ (by simpa [apartX] using nMe0), put_same _ (by first | omega | (simp only [put_size]; omega))]
        dsimp only
        rw [this]; rfl
      rw [tE1, bx_put _ n1e1, bx_put _ n0e1, setAll_snoc, setAll_ext (b := [A, M, E0, E1] ++ lsB L0 L1 p.isSome q.isSome) (fun j => by simp; grind)]
      exact C2 r p q W' hj2
  exact C1 none none w hJ
end
end Go.Proofs.YtkaaebjifkbclaaDoor.Md
