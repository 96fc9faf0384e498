/-
  What the claims of layer 12 share: the listed variable, and how slices of ints and scripts of steps that came in are read. No conditions.
-/
import Derived.Test.YtenncmjokdacoaaDoorSegHas
import Derived.Test.YtenncmjokdacoaaDoorRows
import Derived.Test.YtenncmjokdacoaaDoorTie
import Derived.Test.YtenncmjokdacoaaDoorCards
import Derived.Lib.LaidTab
import Derived.SizedLaws
import Derived.Deep.Grids
import Derived.Deep.Slices
import Derived.ProofKit
import Derived.Handy
import Derived.Lay
import Derived.SevenTiedAt
import Derived.MakeChecks
namespace Go.Proofs.YtenncmjokdacoaaDoor
open Go Go.ChangeShapes Go.WideShapes Go.ChangeAt Go.RowKit Go.Deep

theorem own : ownKnob Tryd.prog.godebug = none := by kernel_rfl
theorem laidOut : laidOutB Tryd.prog = true := by kernel_rfl
theorem cellsInt : Tryd.prog.cellsOf 3 = 1 := by kernel_rfl
theorem gShr : Tryd.prog.globalNamed "ambry/seglru.shares" = some 0 := by kernel_rfl
theorem tShr : (Tryd.prog.globals[0]?).map (·.type) = some 55 := by kernel_rfl
theorem cellsPair : Tryd.prog.cellsOf 55 = 2 := by kernel_rfl
abbrev laid12 : List (String × DataW Unit) := [("ambry/seglru.shares", Rows.laid_ambry_seglru_shares)]
theorem tabShr : (Rows.laid_ambry_seglru_shares : DataW Unit) = Lib.tabData .i64 [20, 40] := by rfl
theorem shr_of {W : World} (h : laidMet Tryd.prog laid12 W) : Sr.Shr W := by
  have ht : Lib.TabIs Tryd.prog W "ambry/seglru.shares" .i64 [20, 40] :=
    Lib.tabIs_of_head gShr tShr Tryd.underlying55 Tryd.underlying3 cellsInt cellsPair h
  exact ⟨ht.cell gShr 0 (by decide), ht.cell gShr 1 (by decide)⟩
theorem plain_of {w : World} {a : Addr} {v : Value} (h : w.cell? (a.add 0) = some v) : a.spot = none := by simpa [Addr.add] using World.cell?_spot h

theorem ints_given {H : Type} {enc : TypeId × Value → H} {W : World} {held : Bool} {a : Option Addr} {n c : Nat} {d : DataW H} {p : List MemPlace}
    (h : DataW.Trod enc Tryd.prog W 0 (fun _ => true) held 32 (.slice a n c) d p) : ∃ zs : List Int, zs.length = n ∧ Nums W a n zs := by
  obtain ⟨fuel, hf⟩ := h
  rcases open_ints Tryd.underlying32 Tryd.underlying3 cellsInt hf with ⟨hcs, -⟩ | ⟨a', len, cap, ss, hcs, _, hl, hm, hz, -, hcell, -⟩
  · simp [Value.cells] at hcs
    obtain ⟨rfl, rfl, rfl⟩ := hcs
    exact ⟨[], rfl, rfl, fun j x hj => by simp at hj⟩
  · simp [Value.cells] at hcs
    obtain ⟨rfl, rfl, rfl⟩ := hcs
    simp only [if_true] at hz
    have hxl : (ss.take n).length = n := by rw [List.length_take]; omega
    refine ⟨ss.take n, hxl, hxl, fun j z hj => ?_⟩
    rw [List.getElem?_take] at hj
    by_cases hjn : j < n
    · rw [if_pos hjn] at hj
      have hc := hcell j (by omega)
      have hsp := plain_of (hcell 0 (by omega))
      obtain ⟨b, o, sp⟩ := a'
      have hsp' : sp = none := hsp
      subst hsp'
      rw [addr_plain, List.getD, hj] at hc
      exact ⟨b, o, rfl, cell_lt hc, hc⟩
    · rw [if_neg hjn] at hj; simp at hj

/-- A step of a script that came in. -/
structure Op12 (w : World) (b o : Nat) (kd z : Int) : Prop where
  e0 : w.cell? ⟨b, o, none⟩ = some (.int .i64 kd)
  e1 : w.cell? ⟨b, o + 1, none⟩ = some (.int .i64 z)
  lt : b < w.heap.size
  rz : i64ok z
def Ops (w : World) (a : Option Addr) (n : Nat) : Prop := ∀ i, i < n → ∃ b off kd z, a = some ⟨b, off, none⟩ ∧ Op12 w b (off + i * 2) kd z
theorem cellsOp : Tryd.prog.cellsOf 29 = 2 := by kernel_rfl
theorem ops_given {H : Type} {enc : TypeId × Value → H} {W : World} {held : Bool} {a : Option Addr} {n c : Nat} {d : DataW H} {p : List MemPlace}
    (h : DataW.Trod enc Tryd.prog W 0 (fun _ => true) held 22 (.slice a n c) d p) :
    Ops W a n := by
  obtain ⟨fuel, hf⟩ := h
  intro i hi
  rcases open_slice Tryd.underlying22 hf with ⟨hcs, -⟩ | ⟨a', len, cap, m, k, D, Pl, hcs, _, hl, _, hmm, -, hx⟩
  · simp [Value.cells] at hcs
    omega
  · simp [Value.cells] at hcs
    obtain ⟨rfl, rfl, rfl⟩ := hcs
    simp only [if_true] at hmm
    have hsp : a'.spot = none := by
      obtain ⟨cs0, h0, _⟩ := hx 0 (by omega)
      rw [cellsOp] at h0
      obtain ⟨_, hlen0, hcell0⟩ := World.cells?_some h0
      have hc := hcell0 0 (by omega)
      rw [List.getElem?_eq_getElem (by omega)] at hc
      simpa [Addr.add] using World.cell?_spot hc
    obtain ⟨cs', h1, h2⟩ := hx i (by omega)
    rw [cellsOp] at h1
    obtain ⟨_, hlen, hcell⟩ := World.cells?_some h1
    obtain ⟨xs, k', _, _, _, hxl, hfs⟩ := DataW.trod_struct Tryd.underlying29 h2
    match xs, hxl, cs', hlen with
    | [y0, y1], _, [v0, v1], _ =>
      have f0 : DataW.trod enc Tryd.prog W 0 (fun _ => true) held k' 3 (([v0, v1].drop 0).take (Tryd.prog.cellsOf 3)) = some y0 := hfs 0 _ rfl
      have f1 : DataW.trod enc Tryd.prog W 0 (fun _ => true) held k' 3 (([v0, v1].drop 1).take (Tryd.prog.cellsOf 3)) = some y1 := hfs 1 _ rfl
      have e0 := hcell 0 (by omega)
      have e1 := hcell 1 (by omega)
      simp only [cellsInt, List.drop_zero, List.drop_succ_cons, List.take_succ_cons, List.take_zero, List.getElem?_cons_zero, List.getElem?_cons_succ] at f0 f1 e0 e1
      obtain ⟨b, o, sp⟩ := a'
      have hsp' : sp = none := hsp
      subst hsp'
      simp only [addr_plain, Nat.add_zero] at e0 e1
      obtain ⟨z0, q0, -, w0⟩ := DataW.trod_int Tryd.underlying3 f0
      obtain ⟨z1, q1, -, w1⟩ := DataW.trod_int Tryd.underlying3 f1
      cases q0
      cases q1
      have hw1 : -9223372036854775808 ≤ z1 ∧ z1 ≤ 9223372036854775807 := by simpa [Lit.wf, IntKind.min, IntKind.max, IntKind.signed, IntKind.bits] using w1
      exact ⟨b, o, z0, z1, rfl, ⟨e0, e1, cell_lt e0, hw1⟩⟩
end Go.Proofs.YtenncmjokdacoaaDoor
