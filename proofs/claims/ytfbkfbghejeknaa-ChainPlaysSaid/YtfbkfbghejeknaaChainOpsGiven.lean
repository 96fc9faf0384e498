/-
  How a script of steps that came in is read, for the claim of ChainPlays. No conditions.
-/
import Derived.Test.YtfbkfbghejeknaaChainPlays
import Derived.Test.YtfbkfbghejeknaaChainClose
import Derived.Deep.Slices
namespace Go.Proofs.Ytfbkfbghejeknaa
open Go Go.ChangeShapes Go.WideShapes Go.ChangeAt Go.RowKit Go.Deep

theorem cellsOp : Try.prog.cellsOf 29 = 3 := by kernel_rfl
theorem ops_given {H : Type} {enc : TypeId × Value → H} {W : World} {held : Bool} {a : Option Addr} {n c : Nat} {d : DataW H} {p : List MemPlace}
    (h : DataW.Trod enc Try.prog W 0 (fun _ => true) held 22 (.slice a n c) d p) :
    ∀ i, i < n → ∃ b off kd N k, a = some ⟨b, off, none⟩ ∧ Op9 W b (off + i * 3) kd N k := by
  obtain ⟨fuel, hf⟩ := h
  intro i hi
  rcases open_slice Try.underlying22 hf with ⟨hcs, -⟩ | ⟨a', len, cap, m, k, D, Pl, hcs, _, hl, _, hmm, -, hx⟩
  · simp [Value.cells] at hcs
    omega
  · simp [Value.cells] at hcs
    obtain ⟨rfl, rfl, rfl⟩ := hcs
    simp only [if_true] at hmm
    have hsp : a'.spot = none := by
      obtain ⟨cs0, h0, _⟩ := hx 0 (by omega)
      rw [cellsOp] at h0
      obtain ⟨_, hlen0, hcell0⟩ := World.cells?_some h0
      have hc := hcell0 0 (by omega)
      rw [List.getElem?_eq_getElem (by omega)] at hc
      simpa [Addr.add] using World.cell?_spot hc
    obtain ⟨cs', h1, h2⟩ := hx i (by omega)
    rw [cellsOp] at h1
    obtain ⟨_, hlen, hcell⟩ := World.cells?_some h1
    obtain ⟨xs, k', _, _, _, hxl, hfs⟩ := DataW.trod_struct Try.underlying29 h2
    match xs, hxl, cs', hlen with
    | [y0, y1, y2], _, [v0, v1, v2], _ =>
      have f0 : DataW.trod enc Try.prog W 0 (fun _ => true) held k' 3 (([v0, v1, v2].drop 0).take (Try.prog.cellsOf 3)) = some y0 := hfs 0 _ rfl
      have f1 : DataW.trod enc Try.prog W 0 (fun _ => true) held k' 3 (([v0, v1, v2].drop 1).take (Try.prog.cellsOf 3)) = some y1 := hfs 1 _ rfl
      have f2 : DataW.trod enc Try.prog W 0 (fun _ => true) held k' 9 (([v0, v1, v2].drop 2).take (Try.prog.cellsOf 9)) = some y2 := hfs 2 _ rfl
      have e0 := hcell 0 (by omega)
      have e1 := hcell 1 (by omega)
      have e2 := hcell 2 (by omega)
      simp only [cellsInt, cellsText, List.drop_zero, List.drop_succ_cons, List.take_succ_cons, List.take_zero, List.getElem?_cons_zero, List.getElem?_cons_succ] at f0 f1 f2 e0 e1 e2
      obtain ⟨b, o, sp⟩ := a'
      have hsp' : sp = none := hsp
      subst hsp'
      simp only [addr_plain, Nat.add_zero] at e0 e1 e2
      obtain ⟨z0, q0, -, w0⟩ := DataW.trod_int Try.underlying3 f0
      obtain ⟨z1, q1, -, w1⟩ := DataW.trod_int Try.underlying3 f1
      obtain ⟨t, q2, -, hsz⟩ := DataW.trod_string Try.underlying9 f2
      cases q0
      cases q1
      cases q2
      have hw1 : -9223372036854775808 ≤ z1 ∧ z1 ≤ 9223372036854775807 := by simpa [Lit.wf, IntKind.min, IntKind.max, IntKind.signed, IntKind.bits] using w1
      exact ⟨b, o, z0, z1, t, rfl, ⟨e0, e1, e2, cell_lt e0, hw1.1, hw1.2, by unfold maxLen at hsz; omega⟩⟩
end Go.Proofs.Ytfbkfbghejeknaa
