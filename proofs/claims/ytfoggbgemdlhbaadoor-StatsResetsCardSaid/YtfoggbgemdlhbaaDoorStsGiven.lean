/-
  How a list of commands that came in is read, for the claims of ModelApart and ModelLooks. No conditions.
-/
import Derived.Test.YtfoggbgemdlhbaaDoorStsClose
import Derived.Deep.Slices
namespace Go.Proofs.YtfoggbgemdlhbaaDoor
open Go Go.ChangeShapes Go.WideShapes Go.ChangeAt Go.RowKit Go.Deep

/-- A list of commands that can be read. -/
def Cms (w : World) (a : Option Addr) (n : Nat) : Prop := ∀ i, i < n → ∃ b o c, a = some ⟨b, o, none⟩ ∧ b < w.heap.size ∧ Md.Cm.Ok c ∧ ∀ j u, (Sc.cc c)[j]? = some u → w.cell? ⟨b, o + i * 16 + j, none⟩ = some u
theorem Cms.below {w w' : World} {a : Option Addr} {n : Nat} (h : Cms w a n) (hb : Below w.heap.size w w') : Cms w' a n := fun i hi => by
  obtain ⟨b, o, c, h1, h2, h3, h4⟩ := h i hi
  exact ⟨b, o, c, h1, Nat.lt_of_lt_of_le h2 hb.size, h3, fun j u hj => (hb.cell (p := ⟨b, o + i * 16 + j, none⟩) h2).trans (h4 j u hj)⟩
theorem cellsCm : Tryd.prog.cellsOf 35 = 16 := by kernel_rfl
theorem cellsInt : Tryd.prog.cellsOf 3 = 1 := by kernel_rfl
theorem cellsI64 : Tryd.prog.cellsOf 2 = 1 := by kernel_rfl
theorem cellsU32 : Tryd.prog.cellsOf 33 = 1 := by kernel_rfl
theorem cellsBool : Tryd.prog.cellsOf 4 = 1 := by kernel_rfl
set_option maxRecDepth 100000 in
set_option maxHeartbeats 2000000 in
theorem cmds_given {H : Type} {enc : TypeId × Value → H} {W : World} {held : Bool} {a : Option Addr} {n c : Nat} {d : DataW H} {p : List MemPlace}
    (h : DataW.Trod enc Tryd.prog W 0 (fun _ => true) held 22 (.slice a n c) d p) : Cms W a n := by
  obtain ⟨fuel, hf⟩ := h
  intro i hi
  rcases open_slice Tryd.underlying22 hf with ⟨hcs, -⟩ | ⟨a', len, cap, m, k, D, Pl, hcs, _, hl, _, hmm, -, hx⟩
  · simp [Value.cells] at hcs
    omega
  · simp [Value.cells] at hcs
    obtain ⟨rfl, rfl, rfl⟩ := hcs
    simp only [if_true] at hmm
    have hsp : a'.spot = none := by
      obtain ⟨cs0, h0, _⟩ := hx 0 (by omega)
      rw [cellsCm] at h0
      obtain ⟨_, hlen0, hcell0⟩ := World.cells?_some h0
      have hc := hcell0 0 (by omega)
      rw [List.getElem?_eq_getElem (by omega)] at hc
      simpa [Addr.add] using World.cell?_spot hc
    obtain ⟨cs', h1, h2⟩ := hx i (by omega)
    rw [cellsCm] at h1
    obtain ⟨_, hlen, hcell⟩ := World.cells?_some h1
    obtain ⟨xs, k', _, _, _, hxl, hfs⟩ := DataW.trod_struct Tryd.underlying35 h2
    match xs, hxl, cs', hlen with
    | [y0, y1, y2, y3, y4, y5, y6, y7, y8, y9, y10, y11, y12, y13, y14, y15], _, [v0, v1, v2, v3, v4, v5, v6, v7, v8, v9, v10, v11, v12, v13, v14, v15], _ =>
      have f0 : DataW.trod enc Tryd.prog W 0 (fun _ => true) held k' 3 (([v0, v1, v2, v3, v4, v5, v6, v7, v8, v9, v10, v11, v12, v13, v14, v15].drop 0).take (Tryd.prog.cellsOf 3)) = some y0 := hfs 0 _ rfl
      have f1 : DataW.trod enc Tryd.prog W 0 (fun _ => true) held k' 3 (([v0, v1, v2, v3, v4, v5, v6, v7, v8, v9, v10, v11, v12, v13, v14, v15].drop 1).take (Tryd.prog.cellsOf 3)) = some y1 := hfs 1 _ rfl
      have f2 : DataW.trod enc Tryd.prog W 0 (fun _ => true) held k' 9 (([v0, v1, v2, v3, v4, v5, v6, v7, v8, v9, v10, v11, v12, v13, v14, v15].drop 2).take (Tryd.prog.cellsOf 9)) = some y2 := hfs 2 _ rfl
      have f3 : DataW.trod enc Tryd.prog W 0 (fun _ => true) held k' 9 (([v0, v1, v2, v3, v4, v5, v6, v7, v8, v9, v10, v11, v12, v13, v14, v15].drop 3).take (Tryd.prog.cellsOf 9)) = some y3 := hfs 3 _ rfl
      have f4 : DataW.trod enc Tryd.prog W 0 (fun _ => true) held k' 33 (([v0, v1, v2, v3, v4, v5, v6, v7, v8, v9, v10, v11, v12, v13, v14, v15].drop 4).take (Tryd.prog.cellsOf 33)) = some y4 := hfs 4 _ rfl
      have f5 : DataW.trod enc Tryd.prog W 0 (fun _ => true) held k' 2 (([v0, v1, v2, v3, v4, v5, v6, v7, v8, v9, v10, v11, v12, v13, v14, v15].drop 5).take (Tryd.prog.cellsOf 2)) = some y5 := hfs 5 _ rfl
      have f6 : DataW.trod enc Tryd.prog W 0 (fun _ => true) held k' 4 (([v0, v1, v2, v3, v4, v5, v6, v7, v8, v9, v10, v11, v12, v13, v14, v15].drop 6).take (Tryd.prog.cellsOf 4)) = some y6 := hfs 6 _ rfl
      have f7 : DataW.trod enc Tryd.prog W 0 (fun _ => true) held k' 28 (([v0, v1, v2, v3, v4, v5, v6, v7, v8, v9, v10, v11, v12, v13, v14, v15].drop 7).take (Tryd.prog.cellsOf 28)) = some y7 := hfs 7 _ rfl
      have f8 : DataW.trod enc Tryd.prog W 0 (fun _ => true) held k' 4 (([v0, v1, v2, v3, v4, v5, v6, v7, v8, v9, v10, v11, v12, v13, v14, v15].drop 8).take (Tryd.prog.cellsOf 4)) = some y8 := hfs 8 _ rfl
      have f9 : DataW.trod enc Tryd.prog W 0 (fun _ => true) held k' 28 (([v0, v1, v2, v3, v4, v5, v6, v7, v8, v9, v10, v11, v12, v13, v14, v15].drop 9).take (Tryd.prog.cellsOf 28)) = some y9 := hfs 9 _ rfl
      have f10 : DataW.trod enc Tryd.prog W 0 (fun _ => true) held k' 28 (([v0, v1, v2, v3, v4, v5, v6, v7, v8, v9, v10, v11, v12, v13, v14, v15].drop 10).take (Tryd.prog.cellsOf 28)) = some y10 := hfs 10 _ rfl
      have f11 : DataW.trod enc Tryd.prog W 0 (fun _ => true) held k' 4 (([v0, v1, v2, v3, v4, v5, v6, v7, v8, v9, v10, v11, v12, v13, v14, v15].drop 11).take (Tryd.prog.cellsOf 4)) = some y11 := hfs 11 _ rfl
      have f12 : DataW.trod enc Tryd.prog W 0 (fun _ => true) held k' 4 (([v0, v1, v2, v3, v4, v5, v6, v7, v8, v9, v10, v11, v12, v13, v14, v15].drop 12).take (Tryd.prog.cellsOf 4)) = some y12 := hfs 12 _ rfl
      have f13 : DataW.trod enc Tryd.prog W 0 (fun _ => true) held k' 2 (([v0, v1, v2, v3, v4, v5, v6, v7, v8, v9, v10, v11, v12, v13, v14, v15].drop 13).take (Tryd.prog.cellsOf 2)) = some y13 := hfs 13 _ rfl
      have f14 : DataW.trod enc Tryd.prog W 0 (fun _ => true) held k' 2 (([v0, v1, v2, v3, v4, v5, v6, v7, v8, v9, v10, v11, v12, v13, v14, v15].drop 14).take (Tryd.prog.cellsOf 2)) = some y14 := hfs 14 _ rfl
      have f15 : DataW.trod enc Tryd.prog W 0 (fun _ => true) held k' 4 (([v0, v1, v2, v3, v4, v5, v6, v7, v8, v9, v10, v11, v12, v13, v14, v15].drop 15).take (Tryd.prog.cellsOf 4)) = some y15 := hfs 15 _ rfl
      have e0 := hcell 0 (by omega)
      simp only [cellsInt, List.drop_zero, List.take_succ_cons, List.take_zero] at f0
      simp only [List.getElem?_cons_zero] at e0
      have e1 := hcell 1 (by omega)
      simp only [cellsInt, List.drop_zero, List.drop_succ_cons, List.take_succ_cons, List.take_zero] at f1
      simp only [List.getElem?_cons_zero, List.getElem?_cons_succ] at e1
      have e2 := hcell 2 (by omega)
      simp only [cells9, List.drop_zero, List.drop_succ_cons, List.take_succ_cons, List.take_zero] at f2
      simp only [List.getElem?_cons_zero, List.getElem?_cons_succ] at e2
      have e3 := hcell 3 (by omega)
      simp only [cells9, List.drop_zero, List.drop_succ_cons, List.take_succ_cons, List.take_zero] at f3
      simp only [List.getElem?_cons_zero, List.getElem?_cons_succ] at e3
      have e4 := hcell 4 (by omega)
      simp only [cellsU32, List.drop_zero, List.drop_succ_cons, List.take_succ_cons, List.take_zero] at f4
      simp only [List.getElem?_cons_zero, List.getElem?_cons_succ] at e4
      have e5 := hcell 5 (by omega)
      simp only [cellsI64, List.drop_zero, List.drop_succ_cons, List.take_succ_cons, List.take_zero] at f5
      simp only [List.getElem?_cons_zero, List.getElem?_cons_succ] at e5
      have e6 := hcell 6 (by omega)
      simp only [cellsBool, List.drop_zero, List.drop_succ_cons, List.take_succ_cons, List.take_zero] at f6
      simp only [List.getElem?_cons_zero, List.getElem?_cons_succ] at e6
      have e7 := hcell 7 (by omega)
      simp only [cells23, List.drop_zero, List.drop_succ_cons, List.take_succ_cons, List.take_zero] at f7
      simp only [List.getElem?_cons_zero, List.getElem?_cons_succ] at e7
      have e8 := hcell 8 (by omega)
      simp only [cellsBool, List.drop_zero, List.drop_succ_cons, List.take_succ_cons, List.take_zero] at f8
      simp only [List.getElem?_cons_zero, List.getElem?_cons_succ] at e8
      have e9 := hcell 9 (by omega)
      simp only [cells23, List.drop_zero, List.drop_succ_cons, List.take_succ_cons, List.take_zero] at f9
      simp only [List.getElem?_cons_zero, List.getElem?_cons_succ] at e9
      have e10 := hcell 10 (by omega)
      simp only [cells23, List.drop_zero, List.drop_succ_cons, List.take_succ_cons, List.take_zero] at f10
      simp only [List.getElem?_cons_zero, List.getElem?_cons_succ] at e10
      have e11 := hcell 11 (by omega)
      simp only [cellsBool, List.drop_zero, List.drop_succ_cons, List.take_succ_cons, List.take_zero] at f11
      simp only [List.getElem?_cons_zero, List.getElem?_cons_succ] at e11
      have e12 := hcell 12 (by omega)
      simp only [cellsBool, List.drop_zero, List.drop_succ_cons, List.take_succ_cons, List.take_zero] at f12
      simp only [List.getElem?_cons_zero, List.getElem?_cons_succ] at e12
      have e13 := hcell 13 (by omega)
      simp only [cellsI64, List.drop_zero, List.drop_succ_cons, List.take_succ_cons, List.take_zero] at f13
      simp only [List.getElem?_cons_zero, List.getElem?_cons_succ] at e13
      have e14 := hcell 14 (by omega)
      simp only [cellsI64, List.drop_zero, List.drop_succ_cons, List.take_succ_cons, List.take_zero] at f14
      simp only [List.getElem?_cons_zero, List.getElem?_cons_succ] at e14
      have e15 := hcell 15 (by omega)
      simp only [cellsBool, List.drop_zero, List.drop_succ_cons, List.take_succ_cons, List.take_zero] at f15
      simp only [List.getElem?_cons_zero, List.getElem?_cons_succ] at e15
      obtain ⟨b, o, sp⟩ := a'
      have hsp' : sp = none := hsp
      subst hsp'
      simp only [addr_plain, Nat.add_zero] at e0 e1 e2 e3 e4 e5 e6 e7 e8 e9 e10 e11 e12 e13 e14 e15
      obtain ⟨z0, q0, -, w0⟩ := DataW.trod_int Tryd.underlying3 f0
      cases q0
      obtain ⟨z1, q1, -, w1⟩ := DataW.trod_int Tryd.underlying3 f1
      cases q1
      obtain ⟨z2, q2, -, -⟩ := DataW.trod_string Tryd.underlying9 f2
      cases q2
      obtain ⟨z3, q3, -, -⟩ := DataW.trod_string Tryd.underlying9 f3
      cases q3
      obtain ⟨z4, q4, -, w4⟩ := DataW.trod_int Tryd.underlying33 f4
      cases q4
      obtain ⟨z5, q5, -, w5⟩ := DataW.trod_int Tryd.underlying2 f5
      cases q5
      obtain ⟨z6, q6, -⟩ := DataW.trod_bool Tryd.underlying4 f6
      cases q6
      obtain ⟨z7, q7, -, w7⟩ := DataW.trod_int Tryd.underlying28 f7
      cases q7
      obtain ⟨z8, q8, -⟩ := DataW.trod_bool Tryd.underlying4 f8
      cases q8
      obtain ⟨z9, q9, -, w9⟩ := DataW.trod_int Tryd.underlying28 f9
      cases q9
      obtain ⟨z10, q10, -, w10⟩ := DataW.trod_int Tryd.underlying28 f10
      cases q10
      obtain ⟨z11, q11, -⟩ := DataW.trod_bool Tryd.underlying4 f11
      cases q11
      obtain ⟨z12, q12, -⟩ := DataW.trod_bool Tryd.underlying4 f12
      cases q12
      obtain ⟨z13, q13, -, w13⟩ := DataW.trod_int Tryd.underlying2 f13
      cases q13
      obtain ⟨z14, q14, -, w14⟩ := DataW.trod_int Tryd.underlying2 f14
      cases q14
      obtain ⟨z15, q15, -⟩ := DataW.trod_bool Tryd.underlying4 f15
      cases q15
      have r0 : -9223372036854775808 ≤ z0 ∧ z0 ≤ 9223372036854775807 := by simpa [Lit.wf, IntKind.min, IntKind.max, IntKind.signed, IntKind.bits] using w0
      have r1 : -9223372036854775808 ≤ z1 ∧ z1 ≤ 9223372036854775807 := by simpa [Lit.wf, IntKind.min, IntKind.max, IntKind.signed, IntKind.bits] using w1
      have r4 : 0 ≤ z4 ∧ z4 ≤ 4294967295 := by simpa [Lit.wf, IntKind.min, IntKind.max, IntKind.signed, IntKind.bits] using w4
      obtain ⟨n4, rfl⟩ : ∃ m : Nat, z4 = m := ⟨z4.toNat, by omega⟩
      have r5 : -9223372036854775808 ≤ z5 ∧ z5 ≤ 9223372036854775807 := by simpa [Lit.wf, IntKind.min, IntKind.max, IntKind.signed, IntKind.bits] using w5
      have r7 : 0 ≤ z7 ∧ z7 ≤ 18446744073709551615 := by simpa [Lit.wf, IntKind.min, IntKind.max, IntKind.signed, IntKind.bits] using w7
      obtain ⟨n7, rfl⟩ : ∃ m : Nat, z7 = m := ⟨z7.toNat, by omega⟩
      have r9 : 0 ≤ z9 ∧ z9 ≤ 18446744073709551615 := by simpa [Lit.wf, IntKind.min, IntKind.max, IntKind.signed, IntKind.bits] using w9
      obtain ⟨n9, rfl⟩ : ∃ m : Nat, z9 = m := ⟨z9.toNat, by omega⟩
      have r10 : 0 ≤ z10 ∧ z10 ≤ 18446744073709551615 := by simpa [Lit.wf, IntKind.min, IntKind.max, IntKind.signed, IntKind.bits] using w10
      obtain ⟨n10, rfl⟩ : ∃ m : Nat, z10 = m := ⟨z10.toNat, by omega⟩
      have r13 : -9223372036854775808 ≤ z13 ∧ z13 ≤ 9223372036854775807 := by simpa [Lit.wf, IntKind.min, IntKind.max, IntKind.signed, IntKind.bits] using w13
      have r14 : -9223372036854775808 ≤ z14 ∧ z14 ≤ 9223372036854775807 := by simpa [Lit.wf, IntKind.min, IntKind.max, IntKind.signed, IntKind.bits] using w14
      refine ⟨b, o, ⟨z0, z1, z2, z3, n4, z5, z6, n7, z8, n9, n10, z11, z12, z13, z14, z15⟩, rfl, cell_lt e0, ⟨r0, r1, by show n4 ≤ 4294967295; omega, r5, by show n7 ≤ 18446744073709551615; omega, by show n9 ≤ 18446744073709551615; omega, by show n10 ≤ 18446744073709551615; omega, r13, r14⟩, fun j u hj => ?_⟩
      have hj16 : j < 16 := (List.getElem?_eq_some_iff.1 hj).1
      have hs : j = 0 ∨ j = 1 ∨ j = 2 ∨ j = 3 ∨ j = 4 ∨ j = 5 ∨ j = 6 ∨ j = 7 ∨ j = 8 ∨ j = 9 ∨ j = 10 ∨ j = 11 ∨ j = 12 ∨ j = 13 ∨ j = 14 ∨ j = 15 := by omega
      rcases hs with rfl | rfl | rfl | rfl | rfl | rfl | rfl | rfl | rfl | rfl | rfl | rfl | rfl | rfl | rfl | rfl
      · cases hj; exact e0
      · cases hj; exact e1
      · cases hj; exact e2
      · cases hj; exact e3
      · cases hj; exact e4
      · cases hj; exact e5
      · cases hj; exact e6
      · cases hj; exact e7
      · cases hj; exact e8
      · cases hj; exact e9
      · cases hj; exact e10
      · cases hj; exact e11
      · cases hj; exact e12
      · cases hj; exact e13
      · cases hj; exact e14
      · cases hj; exact e15
theorem laidOut : laidOutB Tryd.prog = true := by kernel_rfl
end Go.Proofs.YtfoggbgemdlhbaaDoor
