/-
  How a list of items that came in is read, for the claim of ModelApplies. No conditions.
  How a state that came in is read, for the claim of ModelApplies. No conditions.
  How a state and a command that came in are read, for the claim of ModelApplies. No conditions.
-/
import Derived.Test.YtpgljahomeebhaaDoorM11
import Derived.Deep.Slices
import Derived.SizedLaws
import Derived.Handy
import Derived.Lib.SmallJoins
import Derived.Deep.Fields
namespace Go.Proofs.YtpgljahomeebhaaDoor
open Go Go.ChangeShapes Go.WideShapes Go.ChangeAt Go.RowKit Go.Deep

/-- A list of items that can be read. -/
def Itms (w : World) (a : Option Addr) (n : Nat) : Prop := ∀ i, i < n → ∃ b o x, a = some ⟨b, o, none⟩ ∧ b < w.heap.size ∧ It.Ok x ∧ ∀ j u, (It.cells x)[j]? = some u → w.cell? ⟨b, o + i * 8 + j, none⟩ = some u
theorem cellsIm : Tryd.prog.cellsOf 33 = 8 := by kernel_rfl
set_option maxRecDepth 100000 in
set_option maxHeartbeats 2000000 in
theorem items_given {H : Type} {enc : TypeId × Value → H} {W : World} {held : Bool} {a : Option Addr} {n c : Nat} {d : DataW H} {p : List MemPlace}
    (h : DataW.Trod enc Tryd.prog W 0 (fun _ => true) held 22 (.slice a n c) d p) : Itms W a n := by
  obtain ⟨fuel, hf⟩ := h
  intro i hi
  rcases open_slice Tryd.underlying22 hf with ⟨hcs, -⟩ | ⟨a', len, cap, m, k, D, Pl, hcs, _, hl, _, hmm, -, hx⟩
  · simp [Value.cells] at hcs
    omega
  · simp [Value.cells] at hcs
    obtain ⟨rfl, rfl, rfl⟩ := hcs
    simp only [if_true] at hmm
    have hsp : a'.spot = none := by
      obtain ⟨cs0, h0, _⟩ := hx 0 (by omega)
      rw [cellsIm] at h0
      obtain ⟨_, hlen0, hcell0⟩ := World.cells?_some h0
      have hc := hcell0 0 (by omega)
      rw [List.getElem?_eq_getElem (by omega)] at hc
      simpa [Addr.add] using World.cell?_spot hc
    obtain ⟨cs', h1, h2⟩ := hx i (by omega)
    rw [cellsIm] at h1
    obtain ⟨_, hlen, hcell⟩ := World.cells?_some h1
    obtain ⟨xs, k', _, _, _, hxl, hfs⟩ := DataW.trod_struct Tryd.underlying33 h2
    match xs, hxl, cs', hlen with
    | [y0, y1, y2, y3, y4, y5, y6, y7], _, [v0, v1, v2, v3, v4, v5, v6, v7], _ =>
      have f0 : DataW.trod enc Tryd.prog W 0 (fun _ => true) held k' 9 (([v0, v1, v2, v3, v4, v5, v6, v7].drop 0).take (Tryd.prog.cellsOf 9)) = some y0 := hfs 0 _ rfl
      have f1 : DataW.trod enc Tryd.prog W 0 (fun _ => true) held k' 26 (([v0, v1, v2, v3, v4, v5, v6, v7].drop 1).take (Tryd.prog.cellsOf 26)) = some y1 := hfs 1 _ rfl
      have f2 : DataW.trod enc Tryd.prog W 0 (fun _ => true) held k' 9 (([v0, v1, v2, v3, v4, v5, v6, v7].drop 2).take (Tryd.prog.cellsOf 9)) = some y2 := hfs 2 _ rfl
      have f3 : DataW.trod enc Tryd.prog W 0 (fun _ => true) held k' 2 (([v0, v1, v2, v3, v4, v5, v6, v7].drop 3).take (Tryd.prog.cellsOf 2)) = some y3 := hfs 3 _ rfl
      have f4 : DataW.trod enc Tryd.prog W 0 (fun _ => true) held k' 23 (([v0, v1, v2, v3, v4, v5, v6, v7].drop 4).take (Tryd.prog.cellsOf 23)) = some y4 := hfs 4 _ rfl
      have f5 : DataW.trod enc Tryd.prog W 0 (fun _ => true) held k' 2 (([v0, v1, v2, v3, v4, v5, v6, v7].drop 5).take (Tryd.prog.cellsOf 2)) = some y5 := hfs 5 _ rfl
      have f6 : DataW.trod enc Tryd.prog W 0 (fun _ => true) held k' 4 (([v0, v1, v2, v3, v4, v5, v6, v7].drop 6).take (Tryd.prog.cellsOf 4)) = some y6 := hfs 6 _ rfl
      have f7 : DataW.trod enc Tryd.prog W 0 (fun _ => true) held k' 4 (([v0, v1, v2, v3, v4, v5, v6, v7].drop 7).take (Tryd.prog.cellsOf 4)) = some y7 := hfs 7 _ rfl
      have e0 := hcell 0 (by omega)
      simp only [cells9, List.drop_zero, List.take_succ_cons, List.take_zero] at f0
      simp only [List.getElem?_cons_zero] at e0
      have e1 := hcell 1 (by omega)
      simp only [cellsU32, List.drop_zero, List.drop_succ_cons, List.take_succ_cons, List.take_zero] at f1
      simp only [List.getElem?_cons_zero, List.getElem?_cons_succ] at e1
      have e2 := hcell 2 (by omega)
      simp only [cells9, List.drop_zero, List.drop_succ_cons, List.take_succ_cons, List.take_zero] at f2
      simp only [List.getElem?_cons_zero, List.getElem?_cons_succ] at e2
      have e3 := hcell 3 (by omega)
      simp only [cellsI64, List.drop_zero, List.drop_succ_cons, List.take_succ_cons, List.take_zero] at f3
      simp only [List.getElem?_cons_zero, List.getElem?_cons_succ] at e3
      have e4 := hcell 4 (by omega)
      simp only [cells23, List.drop_zero, List.drop_succ_cons, List.take_succ_cons, List.take_zero] at f4
      simp only [List.getElem?_cons_zero, List.getElem?_cons_succ] at e4
      have e5 := hcell 5 (by omega)
      simp only [cellsI64, List.drop_zero, List.drop_succ_cons, List.take_succ_cons, List.take_zero] at f5
      simp only [List.getElem?_cons_zero, List.getElem?_cons_succ] at e5
      have e6 := hcell 6 (by omega)
      simp only [cellsBool, List.drop_zero, List.drop_succ_cons, List.take_succ_cons, List.take_zero] at f6
      simp only [List.getElem?_cons_zero, List.getElem?_cons_succ] at e6
      have e7 := hcell 7 (by omega)
      simp only [cellsBool, List.drop_zero, List.drop_succ_cons, List.take_succ_cons, List.take_zero] at f7
      simp only [List.getElem?_cons_zero, List.getElem?_cons_succ] at e7
      obtain ⟨b, o, sp⟩ := a'
      have hsp' : sp = none := hsp
      subst hsp'
      simp only [addr_plain, Nat.add_zero] at e0 e1 e2 e3 e4 e5 e6 e7
      obtain ⟨z0, q0, -, -⟩ := DataW.trod_string Tryd.underlying9 f0
      cases q0
      obtain ⟨z1, q1, -, w1⟩ := DataW.trod_int Tryd.underlying26 f1
      cases q1
      obtain ⟨z2, q2, -, -⟩ := DataW.trod_string Tryd.underlying9 f2
      cases q2
      obtain ⟨z3, q3, -, w3⟩ := DataW.trod_int Tryd.underlying2 f3
      cases q3
      obtain ⟨z4, q4, -, w4⟩ := DataW.trod_int Tryd.underlying23 f4
      cases q4
      obtain ⟨z5, q5, -, w5⟩ := DataW.trod_int Tryd.underlying2 f5
      cases q5
      obtain ⟨z6, q6, -⟩ := DataW.trod_bool Tryd.underlying4 f6
      cases q6
      obtain ⟨z7, q7, -⟩ := DataW.trod_bool Tryd.underlying4 f7
      cases q7
      have r1 : 0 ≤ z1 ∧ z1 ≤ 4294967295 := by simpa [Lit.wf, IntKind.min, IntKind.max, IntKind.signed, IntKind.bits] using w1
      obtain ⟨n1, rfl⟩ : ∃ m : Nat, z1 = m := ⟨z1.toNat, by omega⟩
      have r3 : -9223372036854775808 ≤ z3 ∧ z3 ≤ 9223372036854775807 := by simpa [Lit.wf, IntKind.min, IntKind.max, IntKind.signed, IntKind.bits] using w3
      have r4 : 0 ≤ z4 ∧ z4 ≤ 18446744073709551615 := by simpa [Lit.wf, IntKind.min, IntKind.max, IntKind.signed, IntKind.bits] using w4
      obtain ⟨n4, rfl⟩ : ∃ m : Nat, z4 = m := ⟨z4.toNat, by omega⟩
      have r5 : -9223372036854775808 ≤ z5 ∧ z5 ≤ 9223372036854775807 := by simpa [Lit.wf, IntKind.min, IntKind.max, IntKind.signed, IntKind.bits] using w5
      refine ⟨b, o, ⟨z0, n1, z2, z3, n4, z5, z6, z7⟩, rfl, cell_lt e0, ⟨by show n1 ≤ 4294967295; omega, r3.1, r3.2, by show n4 ≤ 18446744073709551615; omega, r5.1, r5.2⟩, fun j u hj => ?_⟩
      have hj16 : j < 8 := (List.getElem?_eq_some_iff.1 hj).1
      have hs : j = 0 ∨ j = 1 ∨ j = 2 ∨ j = 3 ∨ j = 4 ∨ j = 5 ∨ j = 6 ∨ j = 7 := by omega
      rcases hs with rfl | rfl | rfl | rfl | rfl | rfl | rfl | rfl
      · cases hj; exact e0
      · cases hj; exact e1
      · cases hj; exact e2
      · cases hj; exact e3
      · cases hj; exact e4
      · cases hj; exact e5
      · cases hj; exact e6
      · cases hj; exact e7
end Go.Proofs.YtpgljahomeebhaaDoor
namespace Go.Proofs.YtpgljahomeebhaaDoor
open Go Go.ChangeShapes Go.WideShapes Go.ChangeAt Go.RowKit Go.Deep

theorem Itms.list {w : World} {a : Option Addr} {n c : Nat} (h : Itms w a n) (hn : n ≤ c) (h0 : a = none → c = 0) : ∃ l : List It, l.length = n ∧ Md.Its w (.slice a n c) l ∧ ∀ x ∈ l, It.Ok x := by
  have h1 : ∀ i : Fin n, ∃ x : It, It.Ok x ∧ ∃ b o, a = some ⟨b, o, none⟩ ∧ ∀ j u, (It.cells x)[j]? = some u → w.cell? ⟨b, o + i.1 * 8 + j, none⟩ = some u := fun i => by
    obtain ⟨b, o, x, h1, _, h2, h3⟩ := h i.1 i.2
    exact ⟨x, h2, b, o, h1, h3⟩
  obtain ⟨f, hf⟩ := Classical.axiomOfChoice h1
  refine ⟨List.ofFn f, by simp, ⟨a, c, by simp, by simpa using hn, h0, fun i x hi => ?_⟩, fun x hx => ?_⟩
  · have hin : i < n := by have := (List.getElem?_eq_some_iff.1 hi).1; simpa using this
    have hx : x = f ⟨i, hin⟩ := by
      rw [List.getElem?_ofFn] at hi
      simp [hin] at hi
      exact hi.symm
    subst hx
    obtain ⟨_, b, o, h2, h3⟩ := hf ⟨i, hin⟩
    exact ⟨b, o, h2, h3⟩
  · obtain ⟨i, hi⟩ := List.mem_ofFn.1 hx
    rw [← hi]; exact (hf i).1
end Go.Proofs.YtpgljahomeebhaaDoor
namespace Go.Proofs.YtpgljahomeebhaaDoor
open Go Go.ChangeShapes Go.WideShapes Go.ChangeAt Go.RowKit Go.Deep Go.Joins

theorem cellsSt : Tryd.prog.cellsOf 25 = 3 := by kernel_rfl
theorem open_agg3 {H : Type} {enc : TypeId × Value → H} {P : Program} {w : World} {base : Nat} {spare : Nat → Bool} {held : Bool} {r : Reach} {b0 : Nat} {t : TypeId} {f0 f1 f2 : Field} {v : Value} {d : DataW H} {p : List MemPlace}
    (hs : P.underlying t = some (.struct #[f0, f1, f2])) (hone : oneCellFields P #[f0, f1, f2] = true) (hC : P.cellsOf t = 3) (hv : Value.okWide P w r b0 t v) (h : DataW.Trod enc P w base spare held t v d p) :
    ∃ (v0 v1 v2 : Value) (y0 y1 y2 : DataW H × List MemPlace) (n : Nat), v = .agg #[v0, v1, v2] ∧ d = .agg [y0.1, y1.1, y2.1] ∧ p = y0.2 ++ (y1.2 ++ (y2.2)) ∧
      DataW.trod enc P w base spare held n f0.type [v0] = some y0 ∧ DataW.trod enc P w base spare held n f1.type [v1] = some y1 ∧ DataW.trod enc P w base spare held n f2.type [v2] = some y2 := by
  obtain ⟨cs, rfl, hsz⟩ := okWide_struct hs hv
  obtain ⟨l⟩ := cs
  match l, hsz.trans hC with
  | [c0, c1, c2], _ =>
    obtain ⟨fuel, hf⟩ := h
    obtain ⟨xs, n, _, hx, _, hlen, hg⟩ := DataW.trod_struct hs hf
    obtain ⟨o0, k0⟩ := hone_of hone 0 f0 rfl
    obtain ⟨o1, k1⟩ := hone_of hone 1 f1 rfl
    obtain ⟨o2, k2⟩ := hone_of hone 2 f2 rfl
    match xs, hlen with
    | [y0, y1, y2], _ =>
      simp only [Prod.mk.injEq] at hx
      exact ⟨c0, c1, c2, y0, y1, y2, n, rfl, by simpa using hx.1, by simpa using hx.2, by simpa [Value.cells, o0, k0] using hg 0 f0 rfl, by simpa [Value.cells, o1, k1] using hg 1 f1 rfl, by simpa [Value.cells, o2, k2] using hg 2 f2 rfl⟩
set_option maxRecDepth 100000 in
set_option maxHeartbeats 2000000 in
theorem open_agg16 {H : Type} {enc : TypeId × Value → H} {P : Program} {w : World} {base : Nat} {spare : Nat → Bool} {held : Bool} {r : Reach} {b0 : Nat} {t : TypeId} {f0 f1 f2 f3 f4 f5 f6 f7 f8 f9 f10 f11 f12 f13 f14 f15 : Field} {v : Value} {d : DataW H} {p : List MemPlace}
    (hs : P.underlying t = some (.struct #[f0, f1, f2, f3, f4, f5, f6, f7, f8, f9, f10, f11, f12, f13, f14, f15])) (hone : oneCellFields P #[f0, f1, f2, f3, f4, f5, f6, f7, f8, f9, f10, f11, f12, f13, f14, f15] = true) (hC : P.cellsOf t = 16) (hv : Value.okWide P w r b0 t v) (h : DataW.Trod enc P w base spare held t v d p) :
    ∃ (v0 v1 v2 v3 v4 v5 v6 v7 v8 v9 v10 v11 v12 v13 v14 v15 : Value) (y0 y1 y2 y3 y4 y5 y6 y7 y8 y9 y10 y11 y12 y13 y14 y15 : DataW H × List MemPlace) (n : Nat), v = .agg #[v0, v1, v2, v3, v4, v5, v6, v7, v8, v9, v10, v11, v12, v13, v14, v15] ∧ d = .agg [y0.1, y1.1, y2.1, y3.1, y4.1, y5.1, y6.1, y7.1, y8.1, y9.1, y10.1, y11.1, y12.1, y13.1, y14.1, y15.1] ∧ p = y0.2 ++ (y1.2 ++ (y2.2 ++ (y3.2 ++ (y4.2 ++ (y5.2 ++ (y6.2 ++ (y7.2 ++ (y8.2 ++ (y9.2 ++ (y10.2 ++ (y11.2 ++ (y12.2 ++ (y13.2 ++ (y14.2 ++ (y15.2))))))))))))))) ∧
      DataW.trod enc P w base spare held n f0.type [v0] = some y0 ∧ DataW.trod enc P w base spare held n f1.type [v1] = some y1 ∧ DataW.trod enc P w base spare held n f2.type [v2] = some y2 ∧ DataW.trod enc P w base spare held n f3.type [v3] = some y3 ∧ DataW.trod enc P w base spare held n f4.type [v4] = some y4 ∧ DataW.trod enc P w base spare held n f5.type [v5] = some y5 ∧ DataW.trod enc P w base spare held n f6.type [v6] = some y6 ∧ DataW.trod enc P w base spare held n f7.type [v7] = some y7 ∧ DataW.trod enc P w base spare held n f8.type [v8] = some y8 ∧ DataW.trod enc P w base spare held n f9.type [v9] = some y9 ∧ DataW.trod enc P w base spare held n f10.type [v10] = some y10 ∧ DataW.trod enc P w base spare held n f11.type [v11] = some y11 ∧ DataW.trod enc P w base spare held n f12.type [v12] = some y12 ∧ DataW.trod enc P w base spare held n f13.type [v13] = some y13 ∧ DataW.trod enc P w base spare held n f14.type [v14] = some y14 ∧ DataW.trod enc P w base spare held n f15.type [v15] = some y15 := by
  obtain ⟨cs, rfl, hsz⟩ := okWide_struct hs hv
  obtain ⟨l⟩ := cs
  match l, hsz.trans hC with
  | [c0, c1, c2, c3, c4, c5, c6, c7, c8, c9, c10, c11, c12, c13, c14, c15], _ =>
    obtain ⟨fuel, hf⟩ := h
    obtain ⟨xs, n, _, hx, _, hlen, hg⟩ := DataW.trod_struct hs hf
    obtain ⟨o0, k0⟩ := hone_of hone 0 f0 rfl
    obtain ⟨o1, k1⟩ := hone_of hone 1 f1 rfl
    obtain ⟨o2, k2⟩ := hone_of hone 2 f2 rfl
    obtain ⟨o3, k3⟩ := hone_of hone 3 f3 rfl
    obtain ⟨o4, k4⟩ := hone_of hone 4 f4 rfl
    obtain ⟨o5, k5⟩ := hone_of hone 5 f5 rfl
    obtain ⟨o6, k6⟩ := hone_of hone 6 f6 rfl
    obtain ⟨o7, k7⟩ := hone_of hone 7 f7 rfl
    obtain ⟨o8, k8⟩ := hone_of hone 8 f8 rfl
    obtain ⟨o9, k9⟩ := hone_of hone 9 f9 rfl
    obtain ⟨o10, k10⟩ := hone_of hone 10 f10 rfl
    obtain ⟨o11, k11⟩ := hone_of hone 11 f11 rfl
    obtain ⟨o12, k12⟩ := hone_of hone 12 f12 rfl
    obtain ⟨o13, k13⟩ := hone_of hone 13 f13 rfl
    obtain ⟨o14, k14⟩ := hone_of hone 14 f14 rfl
    obtain ⟨o15, k15⟩ := hone_of hone 15 f15 rfl
    match xs, hlen with
    | [y0, y1, y2, y3, y4, y5, y6, y7, y8, y9, y10, y11, y12, y13, y14, y15], _ =>
      simp only [Prod.mk.injEq] at hx
      exact ⟨c0, c1, c2, c3, c4, c5, c6, c7, c8, c9, c10, c11, c12, c13, c14, c15, y0, y1, y2, y3, y4, y5, y6, y7, y8, y9, y10, y11, y12, y13, y14, y15, n, rfl, by simpa using hx.1, by simpa using hx.2, by simpa [Value.cells, o0, k0] using hg 0 f0 rfl, by simpa [Value.cells, o1, k1] using hg 1 f1 rfl, by simpa [Value.cells, o2, k2] using hg 2 f2 rfl, by simpa [Value.cells, o3, k3] using hg 3 f3 rfl, by simpa [Value.cells, o4, k4] using hg 4 f4 rfl, by simpa [Value.cells, o5, k5] using hg 5 f5 rfl, by simpa [Value.cells, o6, k6] using hg 6 f6 rfl, by simpa [Value.cells, o7, k7] using hg 7 f7 rfl, by simpa [Value.cells, o8, k8] using hg 8 f8 rfl, by simpa [Value.cells, o9, k9] using hg 9 f9 rfl, by simpa [Value.cells, o10, k10] using hg 10 f10 rfl, by simpa [Value.cells, o11, k11] using hg 11 f11 rfl, by simpa [Value.cells, o12, k12] using hg 12 f12 rfl, by simpa [Value.cells, o13, k13] using hg 13 f13 rfl, by simpa [Value.cells, o14, k14] using hg 14 f14 rfl, by simpa [Value.cells, o15, k15] using hg 15 f15 rfl⟩
set_option maxRecDepth 100000 in
set_option maxHeartbeats 2000000 in
theorem open_state {H : Type} {enc : TypeId × Value → H} {W : World} {held : Bool} {r : Reach} {b0 : Nat} {v : Value} {d : DataW H} {p : List MemPlace} (hv : Value.okWide Tryd.prog W r b0 25 v)
    (h : DataW.Trod enc Tryd.prog W 0 (fun _ => true) held 25 v d p) : ∃ s : Md.Ms, Md.Sv W v s ∧ (∀ x ∈ s.its, It.Ok x) ∧ s.cas ≤ 18446744073709551615 ∧ -9223372036854775808 ≤ s.fl ∧ s.fl ≤ 9223372036854775807 := by
  obtain ⟨v0, v1, v2, y0, y1, y2, n, rfl, rfl, rfl, t0, t1, t2⟩ := open_agg3 Tryd.underlying25 (by kernel_rfl) cellsSt hv h
  obtain ⟨z1, e1, g1, w1⟩ := DataW.trod_int Tryd.underlying23 t1
  obtain ⟨z2, e2, g2, w2⟩ := DataW.trod_int Tryd.underlying2 t2
  simp only [List.cons.injEq, and_true] at e1 e2
  subst e1 e2
  have h1 : 0 ≤ z1 ∧ z1 ≤ 18446744073709551615 := by simpa [Lit.wf, IntKind.min, IntKind.max, IntKind.signed, IntKind.bits] using w1
  have h2 : -9223372036854775808 ≤ z2 ∧ z2 ≤ 9223372036854775807 := by simpa [Lit.wf, IntKind.min, IntKind.max, IntKind.signed, IntKind.bits] using w2
  obtain ⟨n1, rfl⟩ : ∃ m : Nat, z1 = m := ⟨z1.toNat, by omega⟩
  obtain ⟨a, m, c, rfl, hmc, hnil⟩ : ∃ a m c, v0 = .slice a m c ∧ m ≤ c ∧ (a = none → c = 0) := by
    rcases open_slice Tryd.underlying22 t0 with ⟨hcs, -⟩ | ⟨a', len, cap, m, k, D, Pl, hcs, _, hl, _, hmm, -, hx⟩
    · simp only [List.cons.injEq, and_true] at hcs
      exact ⟨none, 0, 0, hcs, Nat.le_refl _, fun _ => rfl⟩
    · simp only [List.cons.injEq, and_true] at hcs
      exact ⟨some a', len, cap, hcs, hl, fun e => by cases e⟩
  obtain ⟨l, hl, hI, hok⟩ := (items_given (h := ⟨n, by simpa [Value.cells] using t0⟩)).list hmc hnil
  exact ⟨⟨l, n1, z2⟩, ⟨_, rfl, hI⟩, hok, by show n1 ≤ _; omega, h2.1, h2.2⟩
set_option maxRecDepth 100000 in
set_option maxHeartbeats 2000000 in
theorem open_command {H : Type} {enc : TypeId × Value → H} {W : World} {held : Bool} {r : Reach} {b0 : Nat} {v : Value} {d : DataW H} {p : List MemPlace} (hv : Value.okWide Tryd.prog W r b0 28 v)
    (h : DataW.Trod enc Tryd.prog W 0 (fun _ => true) held 28 v d p) : ∃ c : Md.Cm, v = c.v ∧ c.Ok := by
  have HH := open_agg16 Tryd.underlying28 (by kernel_rfl) cellsCm hv h
  obtain ⟨v0, v1, v2, v3, v4, v5, v6, v7, v8, v9, v10, v11, v12, v13, v14, v15, HH⟩ := HH
  obtain ⟨y0, y1, y2, y3, y4, y5, y6, y7, y8, y9, y10, y11, y12, y13, y14, y15, n, hvv, -, -, HH⟩ := HH
  subst hvv
  obtain ⟨t0, t1, t2, t3, t4, t5, t6, t7, t8, t9, t10, t11, t12, t13, t14, t15⟩ := HH
  obtain ⟨z0, e0, -, w0⟩ := DataW.trod_int Tryd.underlying3 t0
  simp only [List.cons.injEq, and_true] at e0
  subst e0
  have r0 : -9223372036854775808 ≤ z0 ∧ z0 ≤ 9223372036854775807 := by simpa [Lit.wf, IntKind.min, IntKind.max, IntKind.signed, IntKind.bits] using w0
  obtain ⟨z1, e1, -, w1⟩ := DataW.trod_int Tryd.underlying3 t1
  simp only [List.cons.injEq, and_true] at e1
  subst e1
  have r1 : -9223372036854775808 ≤ z1 ∧ z1 ≤ 9223372036854775807 := by simpa [Lit.wf, IntKind.min, IntKind.max, IntKind.signed, IntKind.bits] using w1
  obtain ⟨z2, e2, -, -⟩ := DataW.trod_string Tryd.underlying9 t2
  simp only [List.cons.injEq, and_true] at e2
  subst e2
  obtain ⟨z3, e3, -, -⟩ := DataW.trod_string Tryd.underlying9 t3
  simp only [List.cons.injEq, and_true] at e3
  subst e3
  obtain ⟨z4, e4, -, w4⟩ := DataW.trod_int Tryd.underlying26 t4
  simp only [List.cons.injEq, and_true] at e4
  subst e4
  have r4 : 0 ≤ z4 ∧ z4 ≤ 4294967295 := by simpa [Lit.wf, IntKind.min, IntKind.max, IntKind.signed, IntKind.bits] using w4
  obtain ⟨n4, rfl⟩ : ∃ m : Nat, z4 = m := ⟨z4.toNat, by omega⟩
  obtain ⟨z5, e5, -, w5⟩ := DataW.trod_int Tryd.underlying2 t5
  simp only [List.cons.injEq, and_true] at e5
  subst e5
  have r5 : -9223372036854775808 ≤ z5 ∧ z5 ≤ 9223372036854775807 := by simpa [Lit.wf, IntKind.min, IntKind.max, IntKind.signed, IntKind.bits] using w5
  obtain ⟨z6, e6, -⟩ := DataW.trod_bool Tryd.underlying4 t6
  simp only [List.cons.injEq, and_true] at e6
  subst e6
  obtain ⟨z7, e7, -, w7⟩ := DataW.trod_int Tryd.underlying23 t7
  simp only [List.cons.injEq, and_true] at e7
  subst e7
  have r7 : 0 ≤ z7 ∧ z7 ≤ 18446744073709551615 := by simpa [Lit.wf, IntKind.min, IntKind.max, IntKind.signed, IntKind.bits] using w7
  obtain ⟨n7, rfl⟩ : ∃ m : Nat, z7 = m := ⟨z7.toNat, by omega⟩
  obtain ⟨z8, e8, -⟩ := DataW.trod_bool Tryd.underlying4 t8
  simp only [List.cons.injEq, and_true] at e8
  subst e8
  obtain ⟨z9, e9, -, w9⟩ := DataW.trod_int Tryd.underlying23 t9
  simp only [List.cons.injEq, and_true] at e9
  subst e9
  have r9 : 0 ≤ z9 ∧ z9 ≤ 18446744073709551615 := by simpa [Lit.wf, IntKind.min, IntKind.max, IntKind.signed, IntKind.bits] using w9
  obtain ⟨n9, rfl⟩ : ∃ m : Nat, z9 = m := ⟨z9.toNat, by omega⟩
  obtain ⟨z10, e10, -, w10⟩ := DataW.trod_int Tryd.underlying23 t10
  simp only [List.cons.injEq, and_true] at e10
  subst e10
  have r10 : 0 ≤ z10 ∧ z10 ≤ 18446744073709551615 := by simpa [Lit.wf, IntKind.min, IntKind.max, IntKind.signed, IntKind.bits] using w10
  obtain ⟨n10, rfl⟩ : ∃ m : Nat, z10 = m := ⟨z10.toNat, by omega⟩
  obtain ⟨z11, e11, -⟩ := DataW.trod_bool Tryd.underlying4 t11
  simp only [List.cons.injEq, and_true] at e11
  subst e11
  obtain ⟨z12, e12, -⟩ := DataW.trod_bool Tryd.underlying4 t12
  simp only [List.cons.injEq, and_true] at e12
  subst e12
  obtain ⟨z13, e13, -, w13⟩ := DataW.trod_int Tryd.underlying2 t13
  simp only [List.cons.injEq, and_true] at e13
  subst e13
  have r13 : -9223372036854775808 ≤ z13 ∧ z13 ≤ 9223372036854775807 := by simpa [Lit.wf, IntKind.min, IntKind.max, IntKind.signed, IntKind.bits] using w13
  obtain ⟨z14, e14, -, w14⟩ := DataW.trod_int Tryd.underlying2 t14
  simp only [List.cons.injEq, and_true] at e14
  subst e14
  have r14 : -9223372036854775808 ≤ z14 ∧ z14 ≤ 9223372036854775807 := by simpa [Lit.wf, IntKind.min, IntKind.max, IntKind.signed, IntKind.bits] using w14
  obtain ⟨z15, e15, -⟩ := DataW.trod_bool Tryd.underlying4 t15
  simp only [List.cons.injEq, and_true] at e15
  subst e15
  exact ⟨⟨z0, z1, z2, z3, n4, z5, z6, n7, z8, n9, n10, z11, z12, z13, z14, z15⟩, rfl, ⟨r0, r1, by show n4 ≤ 4294967295; omega, r5, by show n7 ≤ 18446744073709551615; omega, by show n9 ≤ 18446744073709551615; omega, by show n10 ≤ 18446744073709551615; omega, r13, r14⟩⟩
end Go.Proofs.YtpgljahomeebhaaDoor
