/-
  Pieces of the document's own store and math: a refusal, what is put at the end, each in one step. No conditions.
-/
import Derived.Test.YtpgljahomeebhaaDoorM7
import Derived.Test.YtpgljahomeebhaaDoorModStoreNo
namespace Go.Proofs.YtpgljahomeebhaaDoor.Md
open Go Go.RowKit Go.Lib
theorem begin5 (w : World) (C0 C1 C2 : Array Value) : Bxr w [(w.heap.size + 1 + 1 + 1 + 1, 35, zAN.toList), (w.heap.size + 1 + 1 + 1, 25, zST.toList), (w.heap.size + 1 + 1, 33, C2.toList), (w.heap.size + 1, 28, C1.toList), (w.heap.size, 25, C0.toList)] []
    (((((w.alloc (.cells C0 25)).alloc (.cells C1 28)).alloc (.cells C2 33)).alloc (.cells zST 25)).alloc (.cells zAN 35)) := by
  have h := ((((((Bxr.begin w).new C0 25).new C1 28).new C2 33).new zST 25).new zAN 35)
  simp only [World.size_alloc] at h
  exact h
theorem its_only {D : Nat → Prop} {w w' : World} {a : Option Addr} {n c : Nat} {l : List It} (h : Its w (.slice a n c) l) (ho : Only D w w') (hd : ∀ ad, a = some ad → ¬ D ad.block) : Its w' (.slice a n c) l := by
  obtain ⟨a', c', e, h1, h2, h3⟩ := h
  injection e with e1 e2 e3
  subst e1 e3
  refine ⟨a, c, by rw [e2], h1, h2, fun i x hi => ?_⟩
  obtain ⟨b, o, rfl, h4⟩ := h3 i x hi
  refine ⟨b, o, rfl, fun j u hj => ?_⟩
  have h5 := h4 j u hj
  have hb : b < w.heap.size := cell_lt h5
  have h6 := ho.block b hb (hd _ rfl)
  rw [← h5]
  unfold World.cell?
  rw [h6]
section
variable {ops : Array Oper} {Q : Exit → Act → World → Prop} {rest : List Oper} {a : Act} {w : World}
theorem loadI {o : Oper} {x : Operand} {b : Nat} {cs : List Value} (hg : o.guard = none) (ho : o.op = .load 33 x) (hx : a.eval x = .pointer (some ⟨b, 0, none⟩)) (hb : Blk w b 33 cs) (hl : cs.length = 8) (h : wpList Tryd.prog ops Q rest (a.put o.dst (.agg cs.toArray)) w) : wpList Tryd.prog ops Q (o :: rest) a w :=
  wpList_load_mid hg 33 x ho b 0 hx cs _ (Blk.range hb) Tryd.underlying33 rfl (by rw [hl]; kernel_rfl) h
theorem store_last {st : Nat} {l : Array Bool} {a : Act} {W : World} {S : World → Prop} {i n : Nat} {o : Oper} {x y : Nat} {ty : TypeId} {b : Nat} {cs cs' : List Value} (hi : ops[i]? = some o) (hg : o.guard = none) (hd : o.dst = none) (ho : o.op = .store ty (.tmp x) (.tmp y)) (hr : Region.ready .any ops l = [i])
    (hx : a.eval (.tmp x) = .pointer (some ⟨b, 0, none⟩)) (hy : a.eval (.tmp y) = .agg cs.toArray) (hb : Blk W b ty cs') (hl : cs'.length = cs.length) (hinfo : (Tryd.prog.info? ty).map (·.size) = some cs.length) (h1 : cs.all (·.oneCell') = true)
    (hst : (l.setIfInBounds i true).getD st true = true) (h2 : Region.ready .any ops (l.setIfInBounds i true) = []) (h : Q .normal a (W.setCells b 0 cs)) : wpAnyE Tryd.prog .any ops Q S st (n + 1) l a W :=
  store_one hi hg hd ho hr hx hy hb hl hinfo h1 (fun e => by rw [hst] at e; cases e) (wpAnyE_done h2 h _)
/-- What is put, at the end of a region. -/
theorem putR {st : Nat} {S : World → Prop} {w0 : World} {bs : List (Nat × TypeId × List Value)} {s : Ms} {a0 : Option Addr} {n0 c0 : Nat} {x : It} {an : An} (l : Array Bool) (ip i3 i4 : Nat) {oP o3 o4 : Oper} {dP r3 r4 eA : Nat} {y1 y2 : Operand} (j3 j4 R3 R4 : Nat) {z3 z4 : List Value}
    (hB : Bxr w0 bs [] w) (hI : Its w (.slice a0 n0 c0) s.its) (hs : Sorted s.its) (hlen : s.its.length ≤ 4194304)
    (h3 : bs[j3]? = some (R3, 25, z3)) (h4 : bs[j4]? = some (R4, 35, z4)) (hz3 : z3.length = 3) (hz4 : z4.length = 13) (hj : j3 ≠ j4)
    (iP : ops[ip]? = some oP) (i3' : ops[i3]? = some o3) (i4' : ops[i4]? = some o4)
    (gd : (oP.guard, o3.guard, o4.guard) = (none, none, none)) (ds : (oP.dst, o3.dst, o4.dst) = (some dP, none, none))
    (pP : oP.op = .call { callee := .value (.func 29), args := #[y1, y2], argTypes := #[25, 33] }) (p3 : o3.op = .store 25 (.tmp r3) (.tmp dP)) (p4 : o4.op = .store 35 (.tmp r4) (.tmp eA))
    (q0 : Region.ready .any ops l = [ip]) (q1 : Region.ready .any ops (setAll l [ip]) = [i3]) (q2 : Region.ready .any ops (setAll l [ip, i3]) = [i4]) (q3 : Region.ready .any ops (setAll l [ip, i3, i4]) = [])
    (hne : r3 ≠ dP ∧ r4 ≠ dP ∧ eA ≠ dP) (hsz : ∃ n, a.tmps.size = n ∧ dP < n)
    (e1 : a.eval y1 = .agg (stv (.slice a0 n0 c0) s).toArray) (e2 : a.eval y2 = x.v) (e3 : a.eval (.tmp r3) = .pointer (some ⟨R3, 0, none⟩)) (e4 : a.eval (.tmp r4) = .pointer (some ⟨R4, 0, none⟩)) (e5 : a.eval (.tmp eA) = an.v)
    (hS : ∀ bs2 W, Bxr w0 bs2 [] W → (∀ j, j ≠ j3 → bs2[j]? = bs[j]?) → S W) (hst : st = i4) (hl4 : i4 < l.size)
    (fin : ∀ a2 n2 c2 W, Bxr w0 ((bs.set j3 (R3, 25, stv (.slice a2 n2 c2) ⟨put s.its x, s.cas, s.fl⟩)).set j4 (R4, 35, an.cells)) [] W → Its W (.slice a2 n2 c2) (put s.its x) → Q .normal (a.put (some dP) (.agg (stv (.slice a2 n2 c2) ⟨put s.its x, s.cas, s.fl⟩).toArray)) W) :
    wpAnyE Tryd.prog .any ops Q S st 3 l a w := by
  simp only [Prod.mk.injEq] at gd ds
  obtain ⟨gP, g3, g4⟩ := gd
  obtain ⟨tP, t3, t4⟩ := ds
  obtain ⟨m, hm, hmP⟩ := hsz
  have ap : ∀ {x d : Nat}, x ≠ d → apartX (.tmp x) d = true := fun h => by simpa [apartX] using h
  refine wpAnyE_node (n := 2) (by rw [q0]; rfl) (fun i hi => ?_)
  rw [q0] at hi
  obtain rfl : i = ip := by simpa using hi
  refine wpOp_call (f := 29) (args := #[.agg (stv (.slice a0 n0 c0) s).toArray, x.v]) iP gP (by
    unfold execOp
    rw [pP]
    dsimp only
    unfold resolve
    dsimp only
    rw [show (#[y1, y2].map a.eval) = #[a.eval y1, a.eval y2] by simp, e1, e2]
    kernel_rfl) ?_
  refine (ref_put (s := s) (V := .agg (stv (.slice a0 n0 c0) s).toArray) ⟨_, rfl, hI⟩ hs hlen x).mono ?_
  rintro e W ⟨V', rfl, ⟨⟨v2, rfl, hI2⟩, hN⟩, hb⟩
  obtain ⟨a2, c2, rfl⟩ := hI2.form
  have hB1 := hB.step hb
  refine ⟨_, rfl, fun _ => hS _ _ hB1 (fun _ _ => rfl), ?_⟩
  rw [tP]
  change wpAnyE _ _ _ _ _ _ 2 (setAll l [i]) (a.put (some dP) (.agg (stv (.slice a2 (put s.its x).length c2) ⟨put s.its x, s.cas, s.fl⟩).toArray)) W
  have hl3 : R3 < w.heap.size := (hB.1.get j3 h3).lt
  have hl4' : R4 < w.heap.size := (hB.1.get j4 h4).lt
  have v1 : (a.put (some dP) (.agg (stv (.slice a2 (put s.its x).length c2) ⟨put s.its x, s.cas, s.fl⟩).toArray)).eval (.tmp dP) = .agg (stv (.slice a2 (put s.its x).length c2) ⟨put s.its x, s.cas, s.fl⟩).toArray := put_same _ (by omega) _
  have hnw : ∀ ad, a2 = some ad → w.heap.size ≤ ad.block := fun ad e => hN ad (put s.its x).length c2 (.int .u64 s.cas) (.int .i64 s.fl) (by rw [e]; rfl)
  refine store_one i3' g3 t3 p3 q1 (by rw [put_eval _ (ap hne.1)]; exact e3) v1 (hB1.1.get j3 h3) (by rw [hz3]; rfl) (by kernel_rfl) rfl (fun _ => ?_) ?_
  · refine hS _ _ (hB1.setc j3 h3 (by rw [hz3]; rfl)) (fun j hjj => ?_)
    rw [List.getElem?_set, if_neg (fun e => hjj e.symm)]
  have hB2 := hB1.setc j3 (vs := stv (.slice a2 (put s.its x).length c2) ⟨put s.its x, s.cas, s.fl⟩) h3 (by rw [hz3]; rfl)
  have hI3 := its_only hI2 (only_setCells (b := R3) (stv (.slice a2 (put s.its x).length c2) ⟨put s.its x, s.cas, s.fl⟩) 0 W) (fun ad e hd => by have := hnw ad e; have hd : ad.block = R3 := hd; omega)
  have h4' : (bs.set j3 (R3, 25, stv (.slice a2 (put s.its x).length c2) ⟨put s.its x, s.cas, s.fl⟩))[j4]? = some (R4, 35, z4) := by rw [List.getElem?_set, if_neg hj]; exact h4
  rw [setAll_snoc]
  refine store_one i4' g4 t4 p4 q2 (by rw [put_eval _ (ap hne.2.1)]; exact e4) (by rw [put_eval _ (ap hne.2.2)]; exact e5) (hB2.1.get j4 h4') (by rw [hz4]; rfl) (by kernel_rfl) rfl (fun hh => ?_) ?_
  · exfalso
    rw [setAll_snoc, hst, Array.getD_eq_getD_getElem?, setAll_get] at hh
    rw [Array.getElem?_eq_getElem hl4] at hh
    simp at hh
  rw [setAll_snoc]
  exact wpAnyE_done q3 (fin a2 _ c2 _ (hB2.setc j4 (vs := an.cells) h4' (by rw [hz4]; rfl)) (its_only hI3 (only_setCells (b := R4) an.cells 0 _) (fun ad e hd => by have := hnw ad e; have hd : ad.block = R4 := hd; omega))) _
end
end Go.Proofs.YtpgljahomeebhaaDoor.Md
