/-
  Pieces of the document's own Apply: items stay where a box is stored into; a call's two values, stored into the boxes of the results. No conditions.
  The contract of the document's own may: may a command be? Conditions: its key is not over long.
-/
import Derived.Test.YtpgljahomeebhaaDoorRfAll
import Derived.Test.YtpgljahomeebhaaDoorModGet
import Derived.Test.YtpgljahomeebhaaDoorModRemove
import Derived.Test.YtpgljahomeebhaaDoorBaseB
namespace Go.Proofs.YtpgljahomeebhaaDoor.Md
open Go Go.RowKit Go.Lib
/-- Keys that are no empty texts. -/
def Keyed (l : List It) : Prop := ∀ x ∈ l, 0 < x.key.size
theorem its_keep {W : World} {V : Value} {l : List It} {R : Nat} {t : TypeId} {cs : List Value} (h : Its W V l) (hk : Keyed l) (hb : Blk W R t cs) (hcs : ∀ k, Value.string k ∈ cs → k.size = 0) (vs : List Value) : Its (W.setCells R 0 vs) V l := by
  obtain ⟨a', c', e, h1, h2, h3⟩ := h
  have ho := only_setCells (b := R) vs 0 W
  refine ⟨a', c', e, h1, h2, fun i x hi => ?_⟩
  obtain ⟨b, o, rfl, h4⟩ := h3 i x hi
  have hne : b ≠ R := fun hbr => by
    subst hbr
    have h5 := h4 0 (.string x.key) rfl
    have h6 : (.string x.key : Value) ∈ cs := by
      have hb' : W.heap[b]? = some (.cells cs.toArray t (0, 0)) := hb
      simp [World.cell?, hb'] at h5
      exact List.mem_of_getElem? h5
    have := hcs _ h6
    have := hk x (List.mem_of_getElem? hi)
    omega
  refine ⟨b, o, rfl, fun j u hj => ?_⟩
  have h5 := h4 j u hj
  have hb' : b < W.heap.size := cell_lt h5
  have h6 := ho.block b hb' hne
  rw [← h5]
  unfold World.cell?
  rw [h6]
theorem apply_core {s : Ms} {now : Int} {c : Cm} {most : Int} (hf : fine now c = true) (h6 : c.op ≠ 6) : apply s now c most = (⟨(core now c most (live s now).cas (find (live s now).its c.key)).e.on (live s now).its c.key, (core now c most (live s now).cas (find (live s now).its c.key)).cas, (live s now).fl⟩, (core now c most (live s now).cas (find (live s now).its c.key)).a) := by
  unfold apply
  rw [if_neg (by rw [hf]; decide), if_neg h6]
theorem its_keep1 {W : World} {V : Value} {l : List It} {R : Nat} {t : TypeId} {cs : List Value} (h : Its W V l) (hk : Keyed l) (hb : Blk W R t cs) (hcs : ∀ k, Value.string k ∈ cs → k.size = 0) (j : Nat) (u : Value) : Its (W.setCell ⟨R, j, none⟩ u) V l := by
  obtain ⟨a', c', e, h1, h2, h3⟩ := h
  refine ⟨a', c', e, h1, h2, fun i x hi => ?_⟩
  obtain ⟨b, o, rfl, h4⟩ := h3 i x hi
  have hne : b ≠ R := fun hbr => by
    subst hbr
    have h5 := h4 0 (.string x.key) rfl
    have h6 : (.string x.key : Value) ∈ cs := by
      have hb' : W.heap[b]? = some (.cells cs.toArray t (0, 0)) := hb
      simp [World.cell?, hb'] at h5
      exact List.mem_of_getElem? h5
    have := hcs _ h6
    have := hk x (List.mem_of_getElem? hi)
    omega
  refine ⟨b, o, rfl, fun j2 u2 hj => ?_⟩
  have h5 := h4 j2 u2 hj
  rw [← h5]
  rw [World.cell?_setCell_other]
  exact fun e => hne (by injection e with e1 _ _; exact e1.symm)
theorem its_apart {W : World} {a : Option Addr} {n c D : Nat} {l : List It} (h : Its W (.slice a n c) l) (hD : W.heap.size ≤ D) : l = [] ∨ ∀ ad, a = some ad → ad.block ≠ D := by
  obtain ⟨a', c', e, h1, h2, h3⟩ := h
  injection e with e1 e2 e3
  subst e1
  cases l with
  | nil => exact .inl rfl
  | cons x l =>
    obtain ⟨b, o, rfl, h4⟩ := h3 0 x rfl
    have hb : b < W.heap.size := cell_lt (h4 0 _ rfl)
    exact .inr (fun ad e => by cases e; show b ≠ D; omega)
theorem its_setA {W : World} {a : Option Addr} {n c D : Nat} {l : List It} (h : Its W (.slice a n c) l) (hd : l = [] ∨ ∀ ad, a = some ad → ad.block ≠ D) (j : Nat) (u : Value) : Its (W.setCell ⟨D, j, none⟩ u) (.slice a n c) l := by
  rcases hd with rfl | hd
  · obtain ⟨a', c', e, h1, h2, h3⟩ := h
    exact ⟨a', c', e, h1, h2, fun i x hi => by simp at hi⟩
  · exact its_only h (Only.setCell (D := fun x => x = D) (Only.refl _ W) (p := ⟨D, j, none⟩) (.inl rfl) u) (fun ad e => hd ad e)
theorem begin4 (w : World) (C0 C1 : Array Value) : Bxr w [(w.heap.size + 1 + 1 + 1, 35, zAN.toList), (w.heap.size + 1 + 1, 25, zST.toList), (w.heap.size + 1, 28, C1.toList), (w.heap.size, 25, C0.toList)] []
    ((((w.alloc (.cells C0 25)).alloc (.cells C1 28)).alloc (.cells zST 25)).alloc (.cells zAN 35)) := by
  have h := (((((Bxr.begin w).new C0 25).new C1 28).new zST 25).new zAN 35)
  simp only [World.size_alloc] at h
  exact h
def zIT : Array Value := #[.string ⟨#[]⟩, .int .u32 0, .string ⟨#[]⟩, .int .i64 0, .int .u64 0, .int .i64 0, .bool false, .bool false]
theorem keyed_on {e : Eff} {k : ByteArray} (h : e.For k) (hk : 0 < k.size) {l : List It} (hl : Keyed l) : Keyed (e.on l k) := fun x hx => by
  cases e with
  | keep => exact hl x hx
  | put y =>
    rcases mem_put hx with rfl | hx
    · rw [h _ rfl]; exact hk
    · exact hl x hx
  | drp => exact hl x (mem_drp hx)
section
variable {ops : Array Oper} {Q : Exit → Act → World → Prop} {a : Act} {w : World}
/-- A call's two values go into the results' boxes. -/
theorem callR {w0 : World} {bs : List (Nat × TypeId × List Value)} {s' : Ms} {an : An} {oC oE0 oE1 o3 o4 : Oper} {f : FuncId} {args : Array Value} {dC e0 e1 r3 r4 : Nat} (j3 j4 R3 R4 : Nat)
    (hB : Bxr w0 bs [] w) (h3 : bs[j3]? = some (R3, 25, zST.toList)) (h4 : bs[j4]? = some (R4, 35, zAN.toList)) (hj : j3 ≠ j4)
    (gd : (oC.guard, oE0.guard, oE1.guard, o3.guard, o4.guard) = (none, none, none, none, none)) (ds : (oC.dst, oE0.dst, oE1.dst, o3.dst, o4.dst) = (some dC, some e0, some e1, none, none))
    (pE0 : oE0.op = .extract (.tmp dC) 0) (pE1 : oE1.op = .extract (.tmp dC) 1) (p3 : o3.op = .store 25 (.tmp r3) (.tmp e0)) (p4 : o4.op = .store 35 (.tmp r4) (.tmp e1))
    (hne : ([r3, r4, dC, e0, e1].Nodup : Prop)) (hsz : ∃ n, a.tmps.size = n ∧ dC < n ∧ e0 < n ∧ e1 < n)
    (x3 : a.eval (.tmp r3) = .pointer (some ⟨R3, 0, none⟩)) (x4 : a.eval (.tmp r4) = .pointer (some ⟨R4, 0, none⟩))
    (hrun : (execOp a.eval oC).run Tryd.prog w = .ok (.enter f args) w) (hkey : Keyed s'.its)
    (hc : Calls Tryd.prog f args w fun e w' => ∃ V', e = .returned (.tuple #[V', an.v]) ∧ Sv w' V' s' ∧ Below w.heap.size w w')
    (fin : ∀ v W, Bxr w0 ((bs.set j3 (R3, 25, stv v s')).set j4 (R4, 35, an.cells)) [] W → Its W v s'.its → Q .normal (((a.put (some dC) (.tuple #[.agg (stv v s').toArray, an.v])).put (some e0) (.agg (stv v s').toArray)).put (some e1) an.v) W) :
    wpList Tryd.prog ops Q [oC, oE0, oE1, o3, o4] a w := by
  simp only [Prod.mk.injEq] at gd ds
  obtain ⟨gC, g0, g1, g3, g4⟩ := gd
  obtain ⟨tC, t0, t1, t3, t4⟩ := ds
  obtain ⟨n, hn, z1, z2, z3⟩ := hsz
  simp only [List.nodup_cons, List.mem_cons, List.not_mem_nil, or_false, not_or] at hne
  obtain ⟨⟨q1, q2, q3, q4⟩, ⟨q5, q6, q7⟩, ⟨q8, q9⟩, q10, -⟩ := hne
  have ap : ∀ {x d : Nat}, x ≠ d → apartX (.tmp x) d = true := fun h => by simpa [apartX] using h
  refine wpList_calls gC hrun (hc.mono ?_)
  rintro e W ⟨V', rfl, ⟨v, rfl, hI⟩, hb⟩
  refine ⟨_, rfl, ?_⟩
  rw [tC]
  have hB1 := hB.step hb
  change wpList _ _ _ _ (a.put (some dC) (.tuple #[.agg (stv v s').toArray, an.v])) W
  have k1 : (a.put (some dC) (.tuple #[.agg (stv v s').toArray, an.v])).eval (.tmp dC) = .tuple #[.agg (stv v s').toArray, an.v] := put_same _ (by omega) _
  refine wpList_val (v := .agg (stv v s').toArray) (w' := W) g0 (by unfold execOp; rw [pE0]; dsimp only; rw [k1]; rfl) ?_
  rw [t0]
  have k2 : ((a.put (some dC) (.tuple #[.agg (stv v s').toArray, an.v])).put (some e0) (.agg (stv v s').toArray)).eval (.tmp dC) = .tuple #[.agg (stv v s').toArray, an.v] := by rw [put_eval _ (ap q8)]; exact k1
  refine wpList_val (v := an.v) (w' := W) g1 (by unfold execOp; rw [pE1]; dsimp only; rw [k2]; rfl) ?_
  rw [t1]
  have r0 : (((a.put (some dC) (.tuple #[.agg (stv v s').toArray, an.v])).put (some e0) (.agg (stv v s').toArray)).put (some e1) an.v).eval (.tmp r3) = .pointer (some ⟨R3, 0, none⟩) := by rw [put_eval _ (ap q4), put_eval _ (ap q3), put_eval _ (ap q2)]; exact x3
  have r1 : (((a.put (some dC) (.tuple #[.agg (stv v s').toArray, an.v])).put (some e0) (.agg (stv v s').toArray)).put (some e1) an.v).eval (.tmp r4) = .pointer (some ⟨R4, 0, none⟩) := by rw [put_eval _ (ap q7), put_eval _ (ap q6), put_eval _ (ap q5)]; exact x4
  have r2 : (((a.put (some dC) (.tuple #[.agg (stv v s').toArray, an.v])).put (some e0) (.agg (stv v s').toArray)).put (some e1) an.v).eval (.tmp e0) = .agg (stv v s').toArray := by rw [put_eval _ (ap q10)]; exact put_same _ (by simp only [put_size]; omega) _
  have r3' : (((a.put (some dC) (.tuple #[.agg (stv v s').toArray, an.v])).put (some e0) (.agg (stv v s').toArray)).put (some e1) an.v).eval (.tmp e1) = .agg an.cells.toArray := put_same _ (by simp only [put_size]; omega) _
  obtain ⟨av, cv, rfl⟩ := hI.form
  refine wpList_stor g3 t3 p3 r0 r2 (hB1.1.get j3 h3) rfl (by kernel_rfl) rfl ?_
  have hB2 := hB1.setc j3 (vs := stv (.slice av s'.its.length cv) s') h3 rfl
  have hI2 := its_keep hI hkey (hB1.1.get j3 h3) (by intro k hk; simp [zST] at hk) (stv (.slice av s'.its.length cv) s')
  have h4' : (bs.set j3 (R3, 25, stv (.slice av s'.its.length cv) s'))[j4]? = some (R4, 35, zAN.toList) := by rw [List.getElem?_set, if_neg hj]; exact h4
  refine wpList_stor g4 t4 p4 r1 r3' (hB2.1.get j4 h4') rfl (by kernel_rfl) rfl ?_
  exact fin _ _ (hB2.setc j4 (vs := an.cells) h4' rfl) (its_keep hI2 hkey (hB2.1.get j4 h4') (by intro k hk; simp [zAN] at hk; rw [hk]; rfl) an.cells)
/-- An item in a box of its own. -/
theorem newI {w0 : World} {bs : List (Nat × TypeId × List Value)} {rs : List (Value × List It)} {oL oS : Oper} {dL : Nat} {y : Operand} {cs : List Value} (hB : Bxr w0 bs rs w) (gL : oL.guard = none) (tL : oL.dst = some dL) (pL : oL.op = .alloc 33) (gS : oS.guard = none) (tS : oS.dst = none) (pS : oS.op = .store 33 (.tmp dL) y)
    (hy : a.eval y = .agg cs.toArray) (hap : apartX y dL = true) (hsz : ∃ n, a.tmps.size = n ∧ dL < n) (hl : cs.length = 8) (h1 : cs.all (·.oneCell') = true)
    (fin : ∀ b W, Bxr w0 ((b, 33, cs) :: bs) rs W → Below w.heap.size w W → w.heap.size ≤ b → Q .normal (a.put (some dL) (.pointer (some ⟨b, 0, none⟩))) W) : wpList Tryd.prog ops Q [oL, oS] a w := by
  obtain ⟨n, hn, hd⟩ := hsz
  refine wpList_val (v := .pointer (some ⟨w.heap.size, 0, none⟩)) (w' := w.alloc (.cells zIT 33)) gL (by unfold execOp; rw [pL]; dsimp only; kernel_rfl) ?_
  rw [tL]
  have h := hB.new zIT 33
  refine wpList_stor (b := w.heap.size) (cs := cs) gS tS pS (put_same _ (by omega) _) (by rw [put_eval _ hap]; exact hy) (h.1.get 0 rfl) (by rw [hl]; rfl) (by rw [hl]; kernel_rfl) h1 ?_
  refine fin _ _ (h.setc 0 (vs := cs) rfl (by rw [hl]; rfl)) ?_ (Nat.le_refl _)
  exact (abelow w (.cells zIT 33)).trans ((only_setCells (b := w.heap.size) cs 0 (w.alloc (.cells zIT 33))).below (abelow w _).size (fun x hx => by rw [hx]; exact Nat.le_refl _))
end
end Go.Proofs.YtpgljahomeebhaaDoor.Md
namespace Go.Proofs.YtpgljahomeebhaaDoor.Md
open Go Go.RowKit Go.Lib

set_option maxRecDepth 100000 in
set_option maxHeartbeats 4000000 in
theorem ref_may (c : Cm) (hs : c.key.size < 9223372036854775807) (w : World) : Calls Tryd.prog 21 #[c.v] w fun e w' => e = .returned (.bool (may c)) ∧ Below w.heap.size w w' := by
  obtain ⟨op, mode, k, v, fl, exp, hx, cs, hc, de, ini, dn, vv, vive, rc, iv⟩ := c
  show Calls Tryd.prog 21 #[.agg #[.int .i64 op, .int .i64 mode, .string k, .string v, .int .u32 fl, .int .i64 exp, .bool hx, .int .u64 cs, .bool hc, .int .u64 de, .int .u64 ini, .bool dn, .bool vv, .int .i64 vive, .int .i64 rc, .bool iv]] w fun e w' => e = .returned (.bool (may ⟨op, mode, k, v, fl, exp, hx, cs, hc, de, ini, dn, vv, vive, rc, iv⟩)) ∧ Below w.heap.size w w'
  have HB := hid (abelow w)
  have hk := fun W => ref_key k hs W
  generalize hkB : keyB k.data.toList = K at hk
  by_cases c1 : op < 1
  · have HM : Hid (may ⟨op, mode, k, v, fl, exp, hx, cs, hc, de, ini, dn, vv, vive, rc, iv⟩ = false) := hid (by unfold may farM; dsimp only; rw [hkB]; simp; omega)
    clear hkB
    go_enter Tryd.func21, Tryd.ntmps21
    go_wp2_with fail
    refine (hk _).mono ?_
    rintro e w1 ⟨rfl, rfl⟩
    go_wp2_with fail
    go_ret
    exact ⟨ret_bool HM.out.symm, HB.out _⟩
  · by_cases c2 : 7 < op
    · have HM : Hid (may ⟨op, mode, k, v, fl, exp, hx, cs, hc, de, ini, dn, vv, vive, rc, iv⟩ = false) := hid (by unfold may farM; dsimp only; rw [hkB]; simp; omega)
      clear hkB
      go_enter Tryd.func21, Tryd.ntmps21
      go_wp2_with fail
      refine (hk _).mono ?_
      rintro e w1 ⟨rfl, rfl⟩
      go_wp2_with fail
      go_ret
      exact ⟨ret_bool HM.out.symm, HB.out _⟩
    · cases K
      · by_cases c3 : op = 6
        · subst c3
          by_cases c4 : mode < 0
          · have HM : Hid (may ⟨6, mode, k, v, fl, exp, hx, cs, hc, de, ini, dn, vv, vive, rc, iv⟩ = false) := hid (by unfold may farM; dsimp only; rw [hkB]; simp; omega)
            clear hkB
            go_enter Tryd.func21, Tryd.ntmps21
            go_wp2_with fail
            refine (hk _).mono ?_
            rintro e w1 ⟨rfl, rfl⟩
            go_wp2_with fail
            go_ret
            exact ⟨ret_bool HM.out.symm, HB.out _⟩
          · by_cases c5 : 4 < mode
            · have HM : Hid (may ⟨6, mode, k, v, fl, exp, hx, cs, hc, de, ini, dn, vv, vive, rc, iv⟩ = false) := hid (by unfold may farM; dsimp only; rw [hkB]; simp; omega)
              clear hkB
              go_enter Tryd.func21, Tryd.ntmps21
              go_wp2_with fail
              refine (hk _).mono ?_
              rintro e w1 ⟨rfl, rfl⟩
              go_wp2_with fail
              go_ret
              exact ⟨ret_bool HM.out.symm, HB.out _⟩
            · by_cases c6 : 65536 < (v.size : Int)
              · have HM : Hid (may ⟨6, mode, k, v, fl, exp, hx, cs, hc, de, ini, dn, vv, vive, rc, iv⟩ = false) := hid (by unfold may farM; dsimp only; rw [hkB]; simp; omega)
                clear hkB
                go_enter Tryd.func21, Tryd.ntmps21
                go_wp2_with fail
                refine (hk _).mono ?_
                rintro e w1 ⟨rfl, rfl⟩
                go_wp2_with fail
                go_ret
                exact ⟨ret_bool HM.out.symm, HB.out _⟩
              · by_cases c7 : exp < -1099511627776
                · have HM : Hid (may ⟨6, mode, k, v, fl, exp, hx, cs, hc, de, ini, dn, vv, vive, rc, iv⟩ = false) := hid (by unfold may farM; dsimp only; rw [hkB]; simp; omega)
                  clear hkB
                  go_enter Tryd.func21, Tryd.ntmps21
                  go_wp2_with fail
                  refine (hk _).mono ?_
                  rintro e w1 ⟨rfl, rfl⟩
                  go_wp2_with fail
                  go_ret
                  exact ⟨ret_bool HM.out.symm, HB.out _⟩
                · by_cases c8 : 1099511627776 < exp
                  · have HM : Hid (may ⟨6, mode, k, v, fl, exp, hx, cs, hc, de, ini, dn, vv, vive, rc, iv⟩ = false) := hid (by unfold may farM; dsimp only; rw [hkB]; simp; omega)
                    clear hkB
                    go_enter Tryd.func21, Tryd.ntmps21
                    go_wp2_with fail
                    refine (hk _).mono ?_
                    rintro e w1 ⟨rfl, rfl⟩
                    go_wp2_with fail
                    go_ret
                    exact ⟨ret_bool HM.out.symm, HB.out _⟩
                  · by_cases c9 : vive < -1099511627776
                    · have HM : Hid (may ⟨6, mode, k, v, fl, exp, hx, cs, hc, de, ini, dn, vv, vive, rc, iv⟩ = false) := hid (by unfold may farM; dsimp only; rw [hkB]; simp; omega)
                      clear hkB
                      go_enter Tryd.func21, Tryd.ntmps21
                      go_wp2_with fail
                      refine (hk _).mono ?_
                      rintro e w1 ⟨rfl, rfl⟩
                      go_wp2_with fail
                      go_ret
                      exact ⟨ret_bool HM.out.symm, HB.out _⟩
                    · by_cases d1 : 1099511627776 < vive
                      · have HM : Hid (may ⟨6, mode, k, v, fl, exp, hx, cs, hc, de, ini, dn, vv, vive, rc, iv⟩ = false) := hid (by unfold may farM; dsimp only; rw [hkB]; simp; omega)
                        clear hkB
                        go_enter Tryd.func21, Tryd.ntmps21
                        go_wp2_with fail
                        refine (hk _).mono ?_
                        rintro e w1 ⟨rfl, rfl⟩
                        go_wp2_with fail
                        go_ret
                        exact ⟨ret_bool HM.out.symm, HB.out _⟩
                      · by_cases d2 : rc < -1099511627776
                        · have HM : Hid (may ⟨6, mode, k, v, fl, exp, hx, cs, hc, de, ini, dn, vv, vive, rc, iv⟩ = false) := hid (by unfold may farM; dsimp only; rw [hkB]; simp; omega)
                          clear hkB
                          go_enter Tryd.func21, Tryd.ntmps21
                          go_wp2_with fail
                          refine (hk _).mono ?_
                          rintro e w1 ⟨rfl, rfl⟩
                          go_wp2_with fail
                          go_ret
                          exact ⟨ret_bool HM.out.symm, HB.out _⟩
                        · have HM : Hid (may ⟨6, mode, k, v, fl, exp, hx, cs, hc, de, ini, dn, vv, vive, rc, iv⟩ = decide (rc ≤ 1099511627776)) := hid (by unfold may farM; dsimp only; rw [hkB]; rw [Bool.eq_iff_iff]; simp; omega)
                          clear hkB
                          go_enter Tryd.func21, Tryd.ntmps21
                          go_wp2_with fail
                          refine (hk _).mono ?_
                          rintro e w1 ⟨rfl, rfl⟩
                          go_wp2_with fail
                          go_ret
                          exact ⟨ret_bool HM.out.symm, HB.out _⟩
        · have c3' : (op == 6) = false := beq_eq_false_iff_ne.2 c3
          have HM : Hid (may ⟨op, mode, k, v, fl, exp, hx, cs, hc, de, ini, dn, vv, vive, rc, iv⟩ = false) := hid (by unfold may farM; dsimp only; rw [hkB]; simp; omega)
          clear hkB
          go_enter Tryd.func21, Tryd.ntmps21
          go_wp2_with fail
          refine (hk _).mono ?_
          rintro e w1 ⟨rfl, rfl⟩
          go_wp2_with fail
          go_ret
          exact ⟨ret_bool HM.out.symm, HB.out _⟩
      · by_cases c4 : mode < 0
        · have HM : Hid (may ⟨op, mode, k, v, fl, exp, hx, cs, hc, de, ini, dn, vv, vive, rc, iv⟩ = false) := hid (by unfold may farM; dsimp only; rw [hkB]; simp; omega)
          clear hkB
          go_enter Tryd.func21, Tryd.ntmps21
          go_wp2_with fail
          refine (hk _).mono ?_
          rintro e w1 ⟨rfl, rfl⟩
          go_wp2_with fail
          go_ret
          exact ⟨ret_bool HM.out.symm, HB.out _⟩
        · by_cases c5 : 4 < mode
          · have HM : Hid (may ⟨op, mode, k, v, fl, exp, hx, cs, hc, de, ini, dn, vv, vive, rc, iv⟩ = false) := hid (by unfold may farM; dsimp only; rw [hkB]; simp; omega)
            clear hkB
            go_enter Tryd.func21, Tryd.ntmps21
            go_wp2_with fail
            refine (hk _).mono ?_
            rintro e w1 ⟨rfl, rfl⟩
            go_wp2_with fail
            go_ret
            exact ⟨ret_bool HM.out.symm, HB.out _⟩
          · by_cases c6 : 65536 < (v.size : Int)
            · have HM : Hid (may ⟨op, mode, k, v, fl, exp, hx, cs, hc, de, ini, dn, vv, vive, rc, iv⟩ = false) := hid (by unfold may farM; dsimp only; rw [hkB]; simp; omega)
              clear hkB
              go_enter Tryd.func21, Tryd.ntmps21
              go_wp2_with fail
              refine (hk _).mono ?_
              rintro e w1 ⟨rfl, rfl⟩
              go_wp2_with fail
              go_ret
              exact ⟨ret_bool HM.out.symm, HB.out _⟩
            · by_cases c7 : exp < -1099511627776
              · have HM : Hid (may ⟨op, mode, k, v, fl, exp, hx, cs, hc, de, ini, dn, vv, vive, rc, iv⟩ = false) := hid (by unfold may farM; dsimp only; rw [hkB]; simp; omega)
                clear hkB
                go_enter Tryd.func21, Tryd.ntmps21
                go_wp2_with fail
                refine (hk _).mono ?_
                rintro e w1 ⟨rfl, rfl⟩
                go_wp2_with fail
                go_ret
                exact ⟨ret_bool HM.out.symm, HB.out _⟩
              · by_cases c8 : 1099511627776 < exp
                · have HM : Hid (may ⟨op, mode, k, v, fl, exp, hx, cs, hc, de, ini, dn, vv, vive, rc, iv⟩ = false) := hid (by unfold may farM; dsimp only; rw [hkB]; simp; omega)
                  clear hkB
                  go_enter Tryd.func21, Tryd.ntmps21
                  go_wp2_with fail
                  refine (hk _).mono ?_
                  rintro e w1 ⟨rfl, rfl⟩
                  go_wp2_with fail
                  go_ret
                  exact ⟨ret_bool HM.out.symm, HB.out _⟩
                · by_cases c9 : vive < -1099511627776
                  · have HM : Hid (may ⟨op, mode, k, v, fl, exp, hx, cs, hc, de, ini, dn, vv, vive, rc, iv⟩ = false) := hid (by unfold may farM; dsimp only; rw [hkB]; simp; omega)
                    clear hkB
                    go_enter Tryd.func21, Tryd.ntmps21
                    go_wp2_with fail
                    refine (hk _).mono ?_
                    rintro e w1 ⟨rfl, rfl⟩
                    go_wp2_with fail
                    go_ret
                    exact ⟨ret_bool HM.out.symm, HB.out _⟩
                  · by_cases d1 : 1099511627776 < vive
                    · have HM : Hid (may ⟨op, mode, k, v, fl, exp, hx, cs, hc, de, ini, dn, vv, vive, rc, iv⟩ = false) := hid (by unfold may farM; dsimp only; rw [hkB]; simp; omega)
                      clear hkB
                      go_enter Tryd.func21, Tryd.ntmps21
                      go_wp2_with fail
                      refine (hk _).mono ?_
                      rintro e w1 ⟨rfl, rfl⟩
                      go_wp2_with fail
                      go_ret
                      exact ⟨ret_bool HM.out.symm, HB.out _⟩
                    · by_cases d2 : rc < -1099511627776
                      · have HM : Hid (may ⟨op, mode, k, v, fl, exp, hx, cs, hc, de, ini, dn, vv, vive, rc, iv⟩ = false) := hid (by unfold may farM; dsimp only; rw [hkB]; simp; omega)
                        clear hkB
                        go_enter Tryd.func21, Tryd.ntmps21
                        go_wp2_with fail
                        refine (hk _).mono ?_
                        rintro e w1 ⟨rfl, rfl⟩
                        go_wp2_with fail
                        go_ret
                        exact ⟨ret_bool HM.out.symm, HB.out _⟩
                      · have HM : Hid (may ⟨op, mode, k, v, fl, exp, hx, cs, hc, de, ini, dn, vv, vive, rc, iv⟩ = decide (rc ≤ 1099511627776)) := hid (by unfold may farM; dsimp only; rw [hkB]; rw [Bool.eq_iff_iff]; simp; omega)
                        clear hkB
                        go_enter Tryd.func21, Tryd.ntmps21
                        go_wp2_with fail
                        refine (hk _).mono ?_
                        rintro e w1 ⟨rfl, rfl⟩
                        go_wp2_with fail
                        go_ret
                        exact ⟨ret_bool HM.out.symm, HB.out _⟩
end Go.Proofs.YtpgljahomeebhaaDoor.Md
