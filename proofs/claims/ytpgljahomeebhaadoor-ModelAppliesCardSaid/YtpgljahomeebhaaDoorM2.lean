/-
  A region that draws its order: a call, a call on its result that tells two values, and two boxes for them, in whatever order (as XMdDia; the first call's result is not known ahead). No program in it. No conditions.
  The contract of the program's own mayBe: may a command be? No conditions.
  DERIVED: THE SHELF's CONTRACTS AT THIS DUMP, IN PLAIN WORDS (tools/lay-plain.mjs out of 'YtpgljahomeebhaaDoorLayTrial.lean', which tools/lay-shelf.mjs wrote): THE SAME DECLARATIONS UNDER THE SAME NAMES: 'import', 'namespace', 'open', 'def', 'theorem' AND NOTHING ELSE: no command of the shelf's: FOR A HAND-IN. Each laying: the table of numbers ('.._ren') and one theorem, a field a fact of the dump's own or the kernel's comparison; each contract: ONE APPLICATION.
-/
import Derived.Test.YtpgljahomeebhaaDoorMdDia
import Derived.Test.YtpgljahomeebhaaDoorBaseB
import Derived.Shelf.Small.Strs
import Derived.Test.YtpgljahomeebhaaDoorProg
namespace Go.Proofs.YtpgljahomeebhaaDoor.Md
open Go Go.RowKit Go.Lib
section
variable {P : Program} {ops : Array Oper} {Q : Exit → Act → World → Prop} {md : Region.Mode} {S : World → Prop} {st : Nat}
theorem diaG {R T : Type} (F : Nat) (l : Array Bool) (a : Act) (w : World) (G A M E0 E1 L0 L1 : Nat) {oG oA oM oE0 oE1 oL0 oL1 : Oper} {dG dA dM e0 e1 d0 d1 : Nat} {xG y1 y2 y3 : Operand} {vx v1 v2 v3 : Value} {fG fA : FuncId} (vG : T → Value) (AR : T → Array Value) (u0 u1 : R → Value) (z0 z1 : Obj)
    (J0 : Option Nat → Option Nat → World → Prop) (J1 : T → Option Nat → Option Nat → World → Prop) (J2 : T → R → Option Nat → Option Nat → World → Prop)
    (iG : ops[G]? = some oG) (iA : ops[A]? = some oA) (iM : ops[M]? = some oM) (iE0 : ops[E0]? = some oE0) (iE1 : ops[E1]? = some oE1) (iL0 : ops[L0]? = some oL0) (iL1 : ops[L1]? = some oL1)
    (gd : (oG.guard, oA.guard, oM.guard, oE0.guard, oE1.guard, oL0.guard, oL1.guard) = (none, none, none, none, none, none, none))
    (ds : (oG.dst, oA.dst, oM.dst, oE0.dst, oE1.dst, oL0.dst, oL1.dst) = (some dG, some dA, some dM, some e0, some e1, some d0, some d1))
    (pM : oM.op = .move (.tmp dA)) (pE0 : oE0.op = .extract (.tmp dM) 0) (pE1 : oE1.op = .extract (.tmp dM) 1)
    (hok : diaOk md ops l st G A M E0 E1 L0 L1 = true)
    (hne : [d0, d1, dG].Nodup ∧ [d0, d1, dA, dM, e0, e1].Nodup)
    (hap : (apartX xG d0 && (apartX xG d1 && (apartX y1 d0 && (apartX y1 d1 && (apartX y1 dG && (apartX y2 d0 && (apartX y2 d1 && (apartX y2 dG && (apartX y3 d0 && (apartX y3 d1 && apartX y3 dG)))))))))) = true)
    (hsz : ∃ n, a.tmps.size = n ∧ dG < n ∧ dA < n ∧ dM < n)
    (hx : a.eval xG = vx) (h1 : a.eval y1 = v1) (h2 : a.eval y2 = v2) (h3 : a.eval y3 = v3)
    (rG : ∀ (b : Act) W, b.eval xG = vx → (execOp b.eval oG).run P W = .ok (.enter fG #[vx]) W)
    (rA : ∀ g (b : Act) W, b.eval y1 = v1 → b.eval y2 = v2 → b.eval y3 = v3 → b.eval (.tmp dG) = vG g → (execOp b.eval oA).run P W = .ok (.enter fA (AR g)) W)
    (r0 : ∀ (b : Act) (W : World), (execOp b.eval oL0).run P W = .ok (.value (.pointer (some ⟨W.heap.size, 0, none⟩))) (W.alloc z0))
    (r1 : ∀ (b : Act) (W : World), (execOp b.eval oL1).run P W = .ok (.value (.pointer (some ⟨W.heap.size, 0, none⟩))) (W.alloc z1))
    (hQ : ∀ (d : Nat) c b v W, Q (.panic c) (b.put (some d) v) W → Q (.panic c) b W)
    (s0 : ∀ p q W, J0 p q W → S W) (s1 : ∀ g p q W, J1 g p q W → S W) (s2 : ∀ g r p q W, J2 g r p q W → S W)
    (j00 : ∀ q W, J0 none q W → J0 (some W.heap.size) q (W.alloc z0)) (j10 : ∀ g q W, J1 g none q W → J1 g (some W.heap.size) q (W.alloc z0)) (j20 : ∀ g r q W, J2 g r none q W → J2 g r (some W.heap.size) q (W.alloc z0))
    (j01 : ∀ p W, J0 p none W → J0 p (some W.heap.size) (W.alloc z1)) (j11 : ∀ g p W, J1 g p none W → J1 g p (some W.heap.size) (W.alloc z1)) (j21 : ∀ g r p W, J2 g r p none W → J2 g r p (some W.heap.size) (W.alloc z1))
    (cG : ∀ p q W, J0 p q W → Calls P fG #[vx] W fun e W' => ∃ g, e = .returned (vG g) ∧ J1 g p q W')
    (cA : ∀ g p q W, J1 g p q W → Calls P fA (AR g) W fun e W' => ∃ r, e = .returned (.tuple #[u0 r, u1 r]) ∧ J2 g r p q W')
    (hJ : J0 none none w)
    (fin : ∀ g r b0 b1 W, J2 g r (some b0) (some b1) W → wpAnyE P md ops Q S st F (setAll l [G, A, M, E0, E1, L0, L1]) (((((((a.put (some dG) (vG g)).put (some dA) (.tuple #[u0 r, u1 r])).put (some dM) (.tuple #[u0 r, u1 r])).put (some e0) (u0 r)).put (some e1) (u1 r)).put (some d0) (.pointer (some ⟨b0, 0, none⟩))).put (some d1) (.pointer (some ⟨b1, 0, none⟩))) W) :
    wpAnyE P md ops Q S st (F + 7) l a w := by
  unfold diaOk at hok
  simp only [Bool.and_eq_true] at hok
  obtain ⟨k0, k4, k5, k6, k7, k8, k9⟩ := hok
  simp only [Bool.and_eq_true] at hap
  obtain ⟨p0, p1, p2, p3, p4, p5, p6, p7, p8, p9, p10⟩ := hap
  obtain ⟨N, hN, nG, nA, nM⟩ := hsz
  simp only [Prod.mk.injEq] at gd ds
  obtain ⟨gG, gA, gM, gE0, gE1, g0, g1⟩ := gd
  obtain ⟨tG, tA, tM, tE0, tE1, t0, t1⟩ := ds
  simp only [List.nodup_cons, List.mem_cons, List.not_mem_nil, or_false, not_or] at hne
  obtain ⟨⟨⟨n01, n0G⟩, n1G, -⟩, ⟨⟨-, n0A, n0M, n0e0, n0e1⟩, ⟨n1A, n1M, n1e0, n1e1⟩, ⟨nAM, -, -⟩, ⟨nMe0, nMe1⟩, -⟩⟩ := hne
  have C2 : ∀ g r p q W, J2 g r p q W → wpAnyE P md ops Q S st (F + nb p + nb q) (setAll l ([G, A, M, E0, E1] ++ lsB L0 L1 p.isSome q.isSome))
      (bx (bx (((((a.put (some dG) (vG g)).put (some dA) (.tuple #[u0 r, u1 r])).put (some dM) (.tuple #[u0 r, u1 r])).put (some e0) (u0 r)).put (some e1) (u1 r)) d0 p) d1 q) W := by
    intro g r p q W hj
    generalize hB : (((((a.put (some dG) (vG g)).put (some dA) (.tuple #[u0 r, u1 r])).put (some dM) (.tuple #[u0 r, u1 r])).put (some e0) (u0 r)).put (some e1) (u1 r)) = B at *
    have fin' : ∀ b0 b1 W, J2 g r (some b0) (some b1) W → wpAnyE P md ops Q S st F (setAll l [G, A, M, E0, E1, L0, L1]) (bx (bx B d0 (some b0)) d1 (some b1)) W := fun b0 b1 W h => by
      have := fin g r b0 b1 W h
      rw [hB] at this; exact this
    have ek := eOk_spec k6
    have c01 : ∀ b0 W, J2 g r (some b0) none W → wpAnyE P md ops Q S st (F + 1) (setAll l ([G, A, M, E0, E1] ++ lsB L0 L1 true false)) (bx (bx B d0 (some b0)) d1 none) W := fun b0 W hj => by
      obtain ⟨h1, h2⟩ := ek true false rfl
      refine wpAnyE_node h1 (fun i hi => ?_)
      have hi : i = L1 := by simpa using h2 i hi
      subst hi
      refine wpOp_val iL1 g1 (r1 _ _) ?_
      have hj2 := j21 g r (some b0) W hj
      refine ⟨fun _ => s2 _ _ _ _ _ hj2, ?_⟩
      rw [setAll_snoc, t1]
      exact fin' _ _ _ hj2
    have c10 : ∀ b1 W, J2 g r none (some b1) W → wpAnyE P md ops Q S st (F + 1) (setAll l ([G, A, M, E0, E1] ++ lsB L0 L1 false true)) (bx (bx B d0 none) d1 (some b1)) W := fun b1 W hj => by
      obtain ⟨h1, h2⟩ := ek false true rfl
      refine wpAnyE_node h1 (fun i hi => ?_)
      have hi : i = L0 := by simpa using h2 i hi
      subst hi
      refine wpOp_val iL0 g0 (r0 _ _) ?_
      have hj2 := j20 g r (some b1) W hj
      refine ⟨fun _ => s2 _ _ _ _ _ hj2, ?_⟩
      rw [setAll_snoc, t0, setAll_ext (b := [G, A, M, E0, E1, i, L1]) (fun j => by simp [lsB]; grind), bx_put _ (Ne.symm n01)]
      exact fin' _ _ _ hj2
    cases p with
    | some b0 =>
      cases q with
      | some b1 => exact fin' _ _ _ hj
      | none => exact c01 _ _ hj
    | none =>
      cases q with
      | some b1 => exact c10 _ _ hj
      | none =>
        obtain ⟨h1, h2⟩ := ek false false rfl
        refine wpAnyE_node (n := F + 1) h1 (fun i hi => ?_)
        have hi : i = L0 ∨ i = L1 := by simpa using h2 i hi
        rcases hi with rfl | rfl
        · refine wpOp_val iL0 g0 (r0 _ _) ?_
          have hj2 := j20 g r none W hj
          refine ⟨fun _ => s2 _ _ _ _ _ hj2, ?_⟩
          show wpAnyE P md ops Q S st (F + 1) ((setAll l ([G, A, M, E0, E1] ++ lsB i L1 false false)).setIfInBounds i true) _ _
          rw [setAll_snoc, t0]
          exact c01 _ _ hj2
        · refine wpOp_val iL1 g1 (r1 _ _) ?_
          have hj2 := j21 g r none W hj
          refine ⟨fun _ => s2 _ _ _ _ _ hj2, ?_⟩
          show wpAnyE P md ops Q S st (F + 1) ((setAll l ([G, A, M, E0, E1] ++ lsB L0 i false false)).setIfInBounds i true) _ _
          rw [setAll_snoc, t1]
          exact c10 _ _ hj2
  have C1 : ∀ g p q W, J1 g p q W → wpAnyE P md ops Q S st (F + 3 + 1 + nb p + nb q) (setAll l ([G] ++ lsB L0 L1 p.isSome q.isSome)) (bx (bx (a.put (some dG) (vG g)) d0 p) d1 q) W := by
    intro g
    refine boxes iL0 iL1 g0 g1 t0 t1 n01 r0 r1 (s1 g) (j10 g) (j11 g) (fun _ _ => true) (rOk_spec k5) (fun p q W _ hj => ?_)
    refine wpOp_call iA gA (rA g _ _ ?_ ?_ ?_ ?_) ?_
    · rw [bx_eval _ p3, bx_eval _ p2, put_eval _ p4]; exact h1
    · rw [bx_eval _ p6, bx_eval _ p5, put_eval _ p7]; exact h2
    · rw [bx_eval _ p9, bx_eval _ p8, put_eval _ p10]; exact h3
    · rw [bx_eval _ (by simpa [apartX] using Ne.symm n1G), bx_eval _ (by simpa [apartX] using Ne.symm n0G), put_same _ (by omega)]
    · refine (cA g p q W hj).mono ?_
      rintro e W' ⟨r, rfl, hj2⟩
      refine ⟨_, rfl, fun _ => s2 _ _ _ _ _ hj2, ?_⟩
      rw [tA, show F + 3 + nb p + nb q = F + nb p + nb q + 3 by omega, setAll_snoc, setAll_ext (b := [G, A] ++ lsB L0 L1 p.isSome q.isSome) (fun j => by simp; grind)]
      rw [bx_put _ n1A, bx_put _ n0A]
      have hs2 : S W' := s2 _ _ _ _ _ hj2
      obtain ⟨m1, m2, m3⟩ := tOk_spec k7 p.isSome q.isSome
      refine wpAnyE_takeU (i := M) (v := .tuple #[u0 r, u1 r]) iM k0 m2 m1 (fun c b W h => hQ _ c b _ W (by rw [tM] at h; exact h)) m3 hs2 (.inl ⟨by simp [Region.wanted, gM], fun W2 _ => ?_⟩) ?_
      · unfold execOp
        rw [pM]
        have : (bx (bx ((a.put (some dG) (vG g)).put (some dA) (.tuple #[u0 r, u1 r])) d0 p) d1 q).eval (.tmp dA) = .tuple #[u0 r, u1 r] := by
          rw [bx_eval _ (by simpa [apartX] using Ne.symm n1A), bx_eval _ (by simpa [apartX] using Ne.symm n0A), put_same _ (by rw [put_size]; omega)]
        dsimp only
        rw [this]; rfl
      rw [tM, bx_put _ n1M, bx_put _ n0M, setAll_snoc, setAll_ext (b := [G, A, M] ++ lsB L0 L1 p.isSome q.isSome) (fun j => by simp; grind)]
      obtain ⟨m1, m2, m3⟩ := tOk_spec k8 p.isSome q.isSome
      refine wpAnyE_takeU (i := E0) (v := u0 r) iE0 k0 m2 m1 (fun c b W h => hQ _ c b _ W (by rw [tE0] at h; exact h)) m3 hs2 (.inl ⟨by simp [Region.wanted, gE0], fun W2 _ => ?_⟩) ?_
      · unfold execOp
        rw [pE0]
        have : (bx (bx (((a.put (some dG) (vG g)).put (some dA) (.tuple #[u0 r, u1 r])).put (some dM) (.tuple #[u0 r, u1 r])) d0 p) d1 q).eval (.tmp dM) = .tuple #[u0 r, u1 r] := by
          rw [bx_eval _ (by simpa [apartX] using Ne.symm n1M), bx_eval _ (by simpa [apartX] using Ne.symm n0M), put_same _ (by rw [put_size, put_size]; omega)]
        dsimp only
        rw [this]; rfl
      rw [tE0, bx_put _ n1e0, bx_put _ n0e0, setAll_snoc, setAll_ext (b := [G, A, M, E0] ++ lsB L0 L1 p.isSome q.isSome) (fun j => by simp; grind)]
      obtain ⟨m1, m2, m3⟩ := tOk_spec k9 p.isSome q.isSome
      refine wpAnyE_takeU (i := E1) (v := u1 r) iE1 k0 m2 m1 (fun c b W h => hQ _ c b _ W (by rw [tE1] at h; exact h)) m3 hs2 (.inl ⟨by simp [Region.wanted, gE1], fun W2 _ => ?_⟩) ?_
      · unfold execOp
        rw [pE1]
        have : (bx (bx ((((a.put (some dG) (vG g)).put (some dA) (.tuple #[u0 r, u1 r])).put (some dM) (.tuple #[u0 r, u1 r])).put (some e0) (u0 r)) d0 p) d1 q).eval (.tmp dM) = .tuple #[u0 r, u1 r] := by
          rw [bx_eval _ (by simpa [apartX] using Ne.symm n1M), bx_eval _ (by simpa [apartX] using Ne.symm n0M), put_eval _ (by simpa [apartX] using nMe0), put_same _ (by rw [put_size, put_size]; omega)]
        dsimp only
        rw [this]; rfl
      rw [tE1, bx_put _ n1e1, bx_put _ n0e1, setAll_snoc, setAll_ext (b := [G, A, M, E0, E1] ++ lsB L0 L1 p.isSome q.isSome) (fun j => by simp; grind)]
      exact C2 g r p q W' hj2
  have C0 : ∀ p q W, J0 p q W → wpAnyE P md ops Q S st (F + 3 + 1 + 1 + nb p + nb q) (setAll l ([] ++ lsB L0 L1 p.isSome q.isSome)) (bx (bx a d0 p) d1 q) W := by
    refine boxes iL0 iL1 g0 g1 t0 t1 n01 r0 r1 s0 j00 j01 (fun _ _ => true) (rOk_spec k4) (fun p q W _ hj => ?_)
    refine wpOp_call iG gG (rG _ _ ?_) ?_
    · rw [bx_eval _ p1, bx_eval _ p0]; exact hx
    · refine (cG p q W hj).mono ?_
      rintro e W' ⟨g, rfl, hj2⟩
      refine ⟨_, rfl, fun _ => s1 _ _ _ _ hj2, ?_⟩
      rw [tG, setAll_snoc, setAll_ext (b := [G] ++ lsB L0 L1 p.isSome q.isSome) (fun j => by simp; grind), bx_put _ n1G, bx_put _ n0G]
      exact C1 g p q W' hj2
  exact C0 none none w hJ
end
end Go.Proofs.YtpgljahomeebhaaDoor.Md
namespace Go.Proofs.YtpgljahomeebhaaDoor.Md
open Go Go.RowKit Go.Lib

set_option maxRecDepth 100000 in
theorem sec_any (e : Int) (w : World) : Calls Tryd.prog 43 #[.int .i64 e] w fun x w' => x = .returned (.bool (farM e)) ∧ w = w' := by
  by_cases h1 : -1099511627776 ≤ e
  · by_cases h2 : e ≤ 1099511627776
    · have HM : Hid (farM e = true) := hid (by unfold farM; rw [decide_eq_true h1, decide_eq_true h2]; rfl)
      go_enter Tryd.func43, Tryd.ntmps43
      go_wp2_with fail
      go_ret
      exact ⟨ret_bool HM.out.symm, rfl⟩
    · have HM : Hid (farM e = false) := hid (by unfold farM; rw [decide_eq_true h1, decide_eq_false h2]; rfl)
      go_enter Tryd.func43, Tryd.ntmps43
      go_wp2_with fail
      go_ret
      exact ⟨ret_bool HM.out.symm, rfl⟩
  · have HM : Hid (farM e = false) := hid (by unfold farM; rw [decide_eq_false h1]; rfl)
    go_enter Tryd.func43, Tryd.ntmps43
    go_wp2_with fail
    go_ret
    exact ⟨ret_bool HM.out.symm, rfl⟩
set_option maxRecDepth 100000 in
set_option maxHeartbeats 4000000 in
theorem may_any (c : Cm) (w : World) : Calls Tryd.prog 30 #[c.v] w fun e w' => e = .returned (.bool (may c)) ∧ Below w.heap.size w w' := by
  obtain ⟨op, mode, k, v, fl, exp, hx, cs, hc, de, ini, dn, vv, vive, rc, iv⟩ := c
  show Calls Tryd.prog 30 #[.agg #[.int .i64 op, .int .i64 mode, .string k, .string v, .int .u32 fl, .int .i64 exp, .bool hx, .int .u64 cs, .bool hc, .int .u64 de, .int .u64 ini, .bool dn, .bool vv, .int .i64 vive, .int .i64 rc, .bool iv]] w fun e w' => e = .returned (.bool (may ⟨op, mode, k, v, fl, exp, hx, cs, hc, de, ini, dn, vv, vive, rc, iv⟩)) ∧ Below w.heap.size w w'
  have HB := hid (abelow w)
  have hk := fun W => key_any k W
  have he := fun W => sec_any exp W
  have hv := fun W => sec_any vive W
  have hr := fun W => sec_any rc W
  generalize hkB : keyB k.data.toList = K at hk
  generalize hE : farM exp = E at he
  generalize hV : farM vive = V at hv
  generalize hR : farM rc = R at hr
  by_cases o1 : 1 ≤ op
  · by_cases o7 : op ≤ 7
    · by_cases o6 : op = 6
      · subst o6
        by_cases m0 : 0 ≤ mode
        · by_cases m4 : mode ≤ 4
          · by_cases vs : (v.size : Int) ≤ 65536
            · cases E
              · have HM : Hid (may ⟨6, mode, k, v, fl, exp, hx, cs, hc, de, ini, dn, vv, vive, rc, iv⟩ = false) := hid (by unfold may; dsimp only; simp [*])
                clear hkB hE hV hR
                go_enter Tryd.func30, Tryd.ntmps30
                go_wp2_with fail
                refine (he _).mono ?_
                rintro e w1 ⟨rfl, rfl⟩
                go_wp2_with fail
                go_ret
                exact ⟨ret_bool HM.out.symm, HB.out _⟩
              · cases V
                · have HM : Hid (may ⟨6, mode, k, v, fl, exp, hx, cs, hc, de, ini, dn, vv, vive, rc, iv⟩ = false) := hid (by unfold may; dsimp only; simp [*])
                  clear hkB hE hV hR
                  go_enter Tryd.func30, Tryd.ntmps30
                  go_wp2_with fail
                  refine (he _).mono ?_
                  rintro e w1 ⟨rfl, rfl⟩
                  go_wp2_with fail
                  refine (hv _).mono ?_
                  rintro e w1 ⟨rfl, rfl⟩
                  go_wp2_with fail
                  go_ret
                  exact ⟨ret_bool HM.out.symm, HB.out _⟩
                · cases R
                  · have HM : Hid (may ⟨6, mode, k, v, fl, exp, hx, cs, hc, de, ini, dn, vv, vive, rc, iv⟩ = false) := hid (by unfold may; dsimp only; simp [*])
                    clear hkB hE hV hR
                    go_enter Tryd.func30, Tryd.ntmps30
                    go_wp2_with fail
                    refine (he _).mono ?_
                    rintro e w1 ⟨rfl, rfl⟩
                    go_wp2_with fail
                    refine (hv _).mono ?_
                    rintro e w1 ⟨rfl, rfl⟩
                    go_wp2_with fail
                    refine (hr _).mono ?_
                    rintro e w1 ⟨rfl, rfl⟩
                    go_wp2_with fail
                    go_ret
                    exact ⟨ret_bool HM.out.symm, HB.out _⟩
                  · have HM : Hid (may ⟨6, mode, k, v, fl, exp, hx, cs, hc, de, ini, dn, vv, vive, rc, iv⟩ = true) := hid (by have vs' : v.size ≤ 65536 := (by omega); unfold may; dsimp only; simp [*])
                    clear hkB hE hV hR
                    go_enter Tryd.func30, Tryd.ntmps30
                    go_wp2_with fail
                    refine (he _).mono ?_
                    rintro e w1 ⟨rfl, rfl⟩
                    go_wp2_with fail
                    refine (hv _).mono ?_
                    rintro e w1 ⟨rfl, rfl⟩
                    go_wp2_with fail
                    refine (hr _).mono ?_
                    rintro e w1 ⟨rfl, rfl⟩
                    go_wp2_with fail
                    go_ret
                    exact ⟨ret_bool HM.out.symm, HB.out _⟩
            · have HM : Hid (may ⟨6, mode, k, v, fl, exp, hx, cs, hc, de, ini, dn, vv, vive, rc, iv⟩ = false) := hid (by have vs' : ¬ v.size ≤ 65536 := (by omega); unfold may; dsimp only; simp [*])
              clear hkB hE hV hR
              go_enter Tryd.func30, Tryd.ntmps30
              go_wp2_with fail
              go_ret
              exact ⟨ret_bool HM.out.symm, HB.out _⟩
          · have HM : Hid (may ⟨6, mode, k, v, fl, exp, hx, cs, hc, de, ini, dn, vv, vive, rc, iv⟩ = false) := hid (by unfold may; dsimp only; simp [*])
            clear hkB hE hV hR
            go_enter Tryd.func30, Tryd.ntmps30
            go_wp2_with fail
            go_ret
            exact ⟨ret_bool HM.out.symm, HB.out _⟩
        · have HM : Hid (may ⟨6, mode, k, v, fl, exp, hx, cs, hc, de, ini, dn, vv, vive, rc, iv⟩ = false) := hid (by unfold may; dsimp only; simp [*])
          clear hkB hE hV hR
          go_enter Tryd.func30, Tryd.ntmps30
          go_wp2_with fail
          go_ret
          exact ⟨ret_bool HM.out.symm, HB.out _⟩
      · have o6' : (op == 6) = false := beq_eq_false_iff_ne.2 o6
        cases K
        · have HM : Hid (may ⟨op, mode, k, v, fl, exp, hx, cs, hc, de, ini, dn, vv, vive, rc, iv⟩ = false) := hid (by unfold may; dsimp only; simp [*])
          clear hkB hE hV hR
          go_enter Tryd.func30, Tryd.ntmps30
          go_wp2_with fail
          refine (hk _).mono ?_
          rintro e w1 ⟨rfl, rfl⟩
          go_wp2_with fail
          go_ret
          exact ⟨ret_bool HM.out.symm, HB.out _⟩
        · by_cases m0 : 0 ≤ mode
          · by_cases m4 : mode ≤ 4
            · by_cases vs : (v.size : Int) ≤ 65536
              · cases E
                · have HM : Hid (may ⟨op, mode, k, v, fl, exp, hx, cs, hc, de, ini, dn, vv, vive, rc, iv⟩ = false) := hid (by unfold may; dsimp only; simp [*])
                  clear hkB hE hV hR
                  go_enter Tryd.func30, Tryd.ntmps30
                  go_wp2_with fail
                  refine (hk _).mono ?_
                  rintro e w1 ⟨rfl, rfl⟩
                  go_wp2_with fail
                  refine (he _).mono ?_
                  rintro e w1 ⟨rfl, rfl⟩
                  go_wp2_with fail
                  go_ret
                  exact ⟨ret_bool HM.out.symm, HB.out _⟩
                · cases V
                  · have HM : Hid (may ⟨op, mode, k, v, fl, exp, hx, cs, hc, de, ini, dn, vv, vive, rc, iv⟩ = false) := hid (by unfold may; dsimp only; simp [*])
                    clear hkB hE hV hR
                    go_enter Tryd.func30, Tryd.ntmps30
                    go_wp2_with fail
                    refine (hk _).mono ?_
                    rintro e w1 ⟨rfl, rfl⟩
                    go_wp2_with fail
                    refine (he _).mono ?_
                    rintro e w1 ⟨rfl, rfl⟩
                    go_wp2_with fail
                    refine (hv _).mono ?_
                    rintro e w1 ⟨rfl, rfl⟩
                    go_wp2_with fail
                    go_ret
                    exact ⟨ret_bool HM.out.symm, HB.out _⟩
                  · cases R
                    · have HM : Hid (may ⟨op, mode, k, v, fl, exp, hx, cs, hc, de, ini, dn, vv, vive, rc, iv⟩ = false) := hid (by unfold may; dsimp only; simp [*])
                      clear hkB hE hV hR
                      go_enter Tryd.func30, Tryd.ntmps30
                      go_wp2_with fail
                      refine (hk _).mono ?_
                      rintro e w1 ⟨rfl, rfl⟩
                      go_wp2_with fail
                      refine (he _).mono ?_
                      rintro e w1 ⟨rfl, rfl⟩
                      go_wp2_with fail
                      refine (hv _).mono ?_
                      rintro e w1 ⟨rfl, rfl⟩
                      go_wp2_with fail
                      refine (hr _).mono ?_
                      rintro e w1 ⟨rfl, rfl⟩
                      go_wp2_with fail
                      go_ret
                      exact ⟨ret_bool HM.out.symm, HB.out _⟩
                    · have HM : Hid (may ⟨op, mode, k, v, fl, exp, hx, cs, hc, de, ini, dn, vv, vive, rc, iv⟩ = true) := hid (by have vs' : v.size ≤ 65536 := (by omega); unfold may; dsimp only; simp [*])
                      clear hkB hE hV hR
                      go_enter Tryd.func30, Tryd.ntmps30
                      go_wp2_with fail
                      refine (hk _).mono ?_
                      rintro e w1 ⟨rfl, rfl⟩
                      go_wp2_with fail
                      refine (he _).mono ?_
                      rintro e w1 ⟨rfl, rfl⟩
                      go_wp2_with fail
                      refine (hv _).mono ?_
                      rintro e w1 ⟨rfl, rfl⟩
                      go_wp2_with fail
                      refine (hr _).mono ?_
                      rintro e w1 ⟨rfl, rfl⟩
                      go_wp2_with fail
                      go_ret
                      exact ⟨ret_bool HM.out.symm, HB.out _⟩
              · have HM : Hid (may ⟨op, mode, k, v, fl, exp, hx, cs, hc, de, ini, dn, vv, vive, rc, iv⟩ = false) := hid (by have vs' : ¬ v.size ≤ 65536 := (by omega); unfold may; dsimp only; simp [*])
                clear hkB hE hV hR
                go_enter Tryd.func30, Tryd.ntmps30
                go_wp2_with fail
                refine (hk _).mono ?_
                rintro e w1 ⟨rfl, rfl⟩
                go_wp2_with fail
                go_ret
                exact ⟨ret_bool HM.out.symm, HB.out _⟩
            · have HM : Hid (may ⟨op, mode, k, v, fl, exp, hx, cs, hc, de, ini, dn, vv, vive, rc, iv⟩ = false) := hid (by unfold may; dsimp only; simp [*])
              clear hkB hE hV hR
              go_enter Tryd.func30, Tryd.ntmps30
              go_wp2_with fail
              refine (hk _).mono ?_
              rintro e w1 ⟨rfl, rfl⟩
              go_wp2_with fail
              go_ret
              exact ⟨ret_bool HM.out.symm, HB.out _⟩
          · have HM : Hid (may ⟨op, mode, k, v, fl, exp, hx, cs, hc, de, ini, dn, vv, vive, rc, iv⟩ = false) := hid (by unfold may; dsimp only; simp [*])
            clear hkB hE hV hR
            go_enter Tryd.func30, Tryd.ntmps30
            go_wp2_with fail
            refine (hk _).mono ?_
            rintro e w1 ⟨rfl, rfl⟩
            go_wp2_with fail
            go_ret
            exact ⟨ret_bool HM.out.symm, HB.out _⟩
    · have HM : Hid (may ⟨op, mode, k, v, fl, exp, hx, cs, hc, de, ini, dn, vv, vive, rc, iv⟩ = false) := hid (by unfold may; dsimp only; simp [*])
      clear hkB hE hV hR
      go_enter Tryd.func30, Tryd.ntmps30
      go_wp2_with fail
      go_ret
      exact ⟨ret_bool HM.out.symm, HB.out _⟩
  · have HM : Hid (may ⟨op, mode, k, v, fl, exp, hx, cs, hc, de, ini, dn, vv, vive, rc, iv⟩ = false) := hid (by unfold may; dsimp only; simp [*])
    clear hkB hE hV hR
    go_enter Tryd.func30, Tryd.ntmps30
    go_wp2_with fail
    go_ret
    exact ⟨ret_bool HM.out.symm, HB.out _⟩
end Go.Proofs.YtpgljahomeebhaaDoor.Md
namespace Go.Proofs
open Go.Shelf
def Tryd.laysCompare_ren : Go.Shelf.Ren := ⟨fun | 106 => 77 | 213 => 85 | 265 => 99 | n => n, fun | 9 => 9 | 3 => 3 | n => n, fun | n => n⟩
theorem Tryd.laysCompare : Go.Proofs.Lays.n106 Tryd.prog Tryd.laysCompare_ren := {
  mixed := by kernel_rfl
  f106 := Tryd.func77.trans (congrArg some (by kernel_rfl))
  f213 := Tryd.func85.trans (congrArg some (by kernel_rfl))
  f265 := Tryd.func99.trans (congrArg some (by kernel_rfl))
  t3 := Tryd.underlying3
  a3 := Tryd.isAgg3
  z3 := Tryd.sizeOf3
  v3 := Tryd.zeroValue3
  t9 := Tryd.underlying9
  a9 := Tryd.isAgg9
  z9 := Tryd.sizeOf9
  v9 := Tryd.zeroValue9 }
end Go.Proofs
