/-
  What the claims of layer 14 share: how slices of ints and scripts of steps that came in are read. No conditions.
-/
import Derived.Test.YtkhmgigllcgpnaaThPlays
import Derived.SizedLaws
import Derived.Deep.Grids
import Derived.Deep.Slices
import Derived.Handy
namespace Go.Proofs.Ytkhmgigllcgpnaa
open Go Go.ChangeShapes Go.WideShapes Go.ChangeAt Go.RowKit Go.Deep

theorem own : ownKnob Try.prog.godebug = none := by kernel_rfl
theorem laidOut : laidOutB Try.prog = true := by kernel_rfl
theorem cellsInt : Try.prog.cellsOf 3 = 1 := by kernel_rfl
theorem cellsU64 : Try.prog.cellsOf 29 = 1 := by kernel_rfl
theorem plain_of {w : World} {a : Addr} {v : Value} (h : w.cell? (a.add 0) = some v) : a.spot = none := by simpa [Addr.add] using World.cell?_spot h

theorem ints_given {H : Type} {enc : TypeId × Value → H} {W : World} {held : Bool} {a : Option Addr} {n c : Nat} {d : DataW H} {p : List MemPlace}
    (h : DataW.Trod enc Try.prog W 0 (fun _ => true) held 43 (.slice a n c) d p) : ∃ zs : List Int, zs.length = n ∧ Nums W a n zs := by
  obtain ⟨fuel, hf⟩ := h
  rcases open_ints Try.underlying43 Try.underlying3 cellsInt hf with ⟨hcs, -⟩ | ⟨a', len, cap, ss, hcs, _, hl, hm, hz, -, hcell, -⟩
  · simp [Value.cells] at hcs
    obtain ⟨rfl, rfl, rfl⟩ := hcs
    exact ⟨[], rfl, rfl, fun j x hj => by simp at hj⟩
  · simp [Value.cells] at hcs
    obtain ⟨rfl, rfl, rfl⟩ := hcs
    simp only [if_true] at hz
    have hxl : (ss.take n).length = n := by rw [List.length_take]; omega
    refine ⟨ss.take n, hxl, hxl, fun j z hj => ?_⟩
    rw [List.getElem?_take] at hj
    by_cases hjn : j < n
    · rw [if_pos hjn] at hj
      have hc := hcell j (by omega)
      have hsp := plain_of (hcell 0 (by omega))
      obtain ⟨b, o, sp⟩ := a'
      have hsp' : sp = none := hsp
      subst hsp'
      rw [addr_plain, List.getD, hj] at hc
      exact ⟨b, o, rfl, cell_lt hc, hc⟩
    · rw [if_neg hjn] at hj; simp at hj

theorem cellsOp : Try.prog.cellsOf 31 = 3 := by kernel_rfl
theorem ops_given {H : Type} {enc : TypeId × Value → H} {W : World} {held : Bool} {a : Option Addr} {n c : Nat} {d : DataW H} {p : List MemPlace}
    (h : DataW.Trod enc Try.prog W 0 (fun _ => true) held 22 (.slice a n c) d p) :
    Th.Ops W a n := by
  obtain ⟨fuel, hf⟩ := h
  intro i hi
  rcases open_slice Try.underlying22 hf with ⟨hcs, -⟩ | ⟨a', len, cap, m, k, D, Pl, hcs, _, hl, _, hmm, -, hx⟩
  · simp [Value.cells] at hcs
    omega
  · simp [Value.cells] at hcs
    obtain ⟨rfl, rfl, rfl⟩ := hcs
    simp only [if_true] at hmm
    have hsp : a'.spot = none := by
      obtain ⟨cs0, h0, _⟩ := hx 0 (by omega)
      rw [cellsOp] at h0
      obtain ⟨_, hlen0, hcell0⟩ := World.cells?_some h0
      have hc := hcell0 0 (by omega)
      rw [List.getElem?_eq_getElem (by omega)] at hc
      simpa [Addr.add] using World.cell?_spot hc
    obtain ⟨cs', h1, h2⟩ := hx i (by omega)
    rw [cellsOp] at h1
    obtain ⟨_, hlen, hcell⟩ := World.cells?_some h1
    obtain ⟨xs, k', _, _, _, hxl, hfs⟩ := DataW.trod_struct Try.underlying31 h2
    match xs, hxl, cs', hlen with
    | [y0, y1, y2], _, [v0, v1, v2], _ =>
      have f0 : DataW.trod enc Try.prog W 0 (fun _ => true) held k' 3 (([v0, v1, v2].drop 0).take (Try.prog.cellsOf 3)) = some y0 := hfs 0 _ rfl
      have f1 : DataW.trod enc Try.prog W 0 (fun _ => true) held k' 3 (([v0, v1, v2].drop 1).take (Try.prog.cellsOf 3)) = some y1 := hfs 1 _ rfl
      have f2 : DataW.trod enc Try.prog W 0 (fun _ => true) held k' 29 (([v0, v1, v2].drop 2).take (Try.prog.cellsOf 29)) = some y2 := hfs 2 _ rfl
      have e0 := hcell 0 (by omega)
      have e1 := hcell 1 (by omega)
      have e2 := hcell 2 (by omega)
      simp only [cellsInt, cellsU64, List.drop_zero, List.drop_succ_cons, List.take_succ_cons, List.take_zero, List.getElem?_cons_zero, List.getElem?_cons_succ] at f0 f1 f2 e0 e1 e2
      obtain ⟨b, o, sp⟩ := a'
      have hsp' : sp = none := hsp
      subst hsp'
      simp only [addr_plain, Nat.add_zero] at e0 e1 e2
      obtain ⟨z0, q0, -, w0⟩ := DataW.trod_int Try.underlying3 f0
      obtain ⟨z1, q1, -, w1⟩ := DataW.trod_int Try.underlying3 f1
      obtain ⟨z2, q2, -, w2⟩ := DataW.trod_int Try.underlying29 f2
      cases q0
      cases q1
      cases q2
      have hw1 : -9223372036854775808 ≤ z1 ∧ z1 ≤ 9223372036854775807 := by simpa [Lit.wf, IntKind.min, IntKind.max, IntKind.signed, IntKind.bits] using w1
      have hw2 : 0 ≤ z2 ∧ z2 ≤ 18446744073709551615 := by simpa [Lit.wf, IntKind.min, IntKind.max, IntKind.signed, IntKind.bits] using w2
      exact ⟨b, o, z0, z1, z2, rfl, ⟨e0, e1, e2, cell_lt e0, hw1, hw2⟩⟩
end Go.Proofs.Ytkhmgigllcgpnaa
