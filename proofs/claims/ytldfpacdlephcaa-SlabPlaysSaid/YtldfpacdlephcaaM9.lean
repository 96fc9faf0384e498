/-
  What the claims of layer 7 share: how slices of ints that came in are read. No conditions.
  How a script of steps on a slab that came in is read, for the claim of SlabPlays. No conditions.
-/
import Derived.Test.YtldfpacdlephcaaM5
import Derived.SliceStrings
import Derived.SizedLaws
import Derived.Handy
import Derived.Test.YtldfpacdlephcaaSlabPlaysB
import Derived.Deep.Slices
namespace Go.Proofs.Ytldfpacdlephcaa
open Go Go.ChangeShapes Go.WideShapes Go.ChangeAt Go.RowKit

theorem own : ownKnob Try.prog.godebug = none := by kernel_rfl
theorem laidOut : laidOutB Try.prog = true := by kernel_rfl
theorem cellsInt : Try.prog.cellsOf 3 = 1 := by kernel_rfl

theorem ints_given {H : Type} {enc : TypeId × Value → H} {W : World} {held : Bool} {a : Option Addr} {n c : Nat} {d : DataW H} {p : List MemPlace}
    (h : DataW.Trod enc Try.prog W 0 (fun _ => true) held 22 (.slice a n c) d p) : ∃ zs : List Int, zs.length = n ∧ Sz.Ints W (.slice a n c) zs ∧ n ≤ 9223372036854775807 ∧ ∀ z ∈ zs, -9223372036854775808 ≤ z ∧ z ≤ 9223372036854775807 := by
  obtain ⟨fuel, hf⟩ := h
  rcases open_ints Try.underlying22 Try.underlying3 cellsInt hf with ⟨hcs, -⟩ | ⟨a', len, cap, ss, hcs, _, hl, hm, hz, -, hcell, hwf⟩
  · simp [Value.cells] at hcs
    obtain ⟨rfl, rfl, rfl⟩ := hcs
    exact ⟨[], rfl, ⟨none, 0, rfl, fun j x hj => by simp at hj⟩, Nat.zero_le _, fun z hz => by cases hz⟩
  · simp [Value.cells] at hcs
    obtain ⟨rfl, rfl, rfl⟩ := hcs
    simp only [if_true] at hz
    have hxl : (ss.take n).length = n := by rw [List.length_take]; omega
    refine ⟨ss.take n, hxl, ⟨some a', c, by rw [hxl], fun j z hj => ?_⟩, by unfold maxLen at hm; omega, fun z hz => ?_⟩
    · rw [List.getElem?_take] at hj
      by_cases hjn : j < n
      · rw [if_pos hjn] at hj
        have hc := hcell j (by omega)
        have hsp : a'.spot = none := by simpa [Addr.add] using World.cell?_spot (hcell 0 (by omega))
        obtain ⟨b, o, sp⟩ := a'
        have hsp' : sp = none := hsp
        subst hsp'
        rw [addr_plain, List.getD, hj] at hc
        exact ⟨b, o, rfl, cell_lt hc, hc⟩
      · rw [if_neg hjn] at hj; simp at hj
    · have := hwf z (List.mem_of_mem_take hz)
      simpa [Lit.wf, IntKind.min, IntKind.max, IntKind.signed, IntKind.bits] using this
end Go.Proofs.Ytldfpacdlephcaa
namespace Go.Proofs.Ytldfpacdlephcaa
open Go Go.ChangeShapes Go.WideShapes Go.ChangeAt Go.RowKit Go.Deep

theorem cellsByte : Try.prog.cellsOf 5 = 1 := by kernel_rfl
theorem cellsBytes : Try.prog.cellsOf 39 = 1 := by kernel_rfl
theorem cellsOp : Try.prog.cellsOf 41 = 4 := by kernel_rfl

theorem ints_room {H : Type} {enc : TypeId × Value → H} {W : World} {held : Bool} {a : Option Addr} {n c : Nat} {d : DataW H} {p : List MemPlace}
    (h : DataW.Trod enc Try.prog W 0 (fun _ => true) held 22 (.slice a n c) d p) : n ≤ c ∧ c ≤ 9223372036854775807 ∧ (a = none → c = 0) := by
  obtain ⟨fuel, hf⟩ := h
  rcases open_ints Try.underlying22 Try.underlying3 cellsInt hf with ⟨hcs, -⟩ | ⟨a', len, cap, ss, hcs, _, hl, hm, hz, -, hcell, hwf⟩
  · simp [Value.cells] at hcs
    obtain ⟨rfl, rfl, rfl⟩ := hcs
    exact ⟨Nat.le_refl _, Nat.zero_le _, fun _ => rfl⟩
  · simp [Value.cells] at hcs
    obtain ⟨rfl, rfl, rfl⟩ := hcs
    exact ⟨hl, by unfold maxLen at hm; omega, fun e => by cases e⟩

theorem bytes_trod {H : Type} {enc : TypeId × Value → H} {W : World} {held : Bool} {v : Value} {fuel : Nat} {x : DataW H × List MemPlace}
    (h : DataW.trod enc Try.prog W 0 (fun _ => true) held fuel 39 [v] = some x) : ∃ (a : Option Addr) (n c : Nat) (l : List UInt8), v = .slice a n c ∧ l.length = n ∧ Byts W (.slice a n c) l ∧ n ≤ c ∧ c ≤ 9223372036854775807 ∧ (a = none → c = 0) := by
  rcases open_ints Try.underlying39 Try.underlying5 cellsByte h with ⟨hcs, -⟩ | ⟨a', n, c, ss, hcs, _, hl, hm, hz, -, hcell, hwf⟩
  · have hv : v = .slice none 0 0 := by simpa using hcs
    exact ⟨none, 0, 0, [], hv, rfl, ⟨none, 0, rfl, fun j x hj => by simp at hj⟩, Nat.zero_le _, Nat.zero_le _, fun _ => rfl⟩
  · have hv : v = .slice (some a') n c := by simpa using hcs
    simp only [if_true] at hz
    have hxl : ((ss.take n).map fun z => UInt8.ofNat z.toNat).length = n := by rw [List.length_map, List.length_take]; omega
    refine ⟨some a', n, c, (ss.take n).map fun z => UInt8.ofNat z.toNat, hv, hxl, ⟨some a', c, by rw [hxl], fun j b hj => ?_⟩, hl, by unfold maxLen at hm; omega, fun e => by cases e⟩
    rw [List.getElem?_map, List.getElem?_take] at hj
    by_cases hjn : j < n
    · rw [if_pos hjn] at hj
      have hss : ss[j]? = some ss[j] := List.getElem?_eq_getElem (by omega)
      rw [hss] at hj
      have hb : UInt8.ofNat ss[j].toNat = b := by simpa using hj
      have hc := hcell j (by omega)
      have hsp : a'.spot = none := by simpa [Addr.add] using World.cell?_spot (hcell 0 (by omega))
      obtain ⟨b', o, sp⟩ := a'
      have hsp' : sp = none := hsp
      subst hsp'
      rw [addr_plain, List.getD, hss] at hc
      have hw := hwf ss[j] (List.getElem_mem _)
      have hr : 0 ≤ ss[j] ∧ ss[j] ≤ 255 := by simpa [Lit.wf, IntKind.min, IntKind.max, IntKind.signed, IntKind.bits] using hw
      have e : ((b.toNat : Nat) : Int) = ss[j] := by
        rw [← hb, UInt8.toNat_ofNat', Nat.mod_eq_of_lt (by omega)]; omega
      refine ⟨b', o, rfl, cell_lt hc, ?_⟩
      rw [e]; exact hc
    · rw [if_neg hjn] at hj; simp at hj

set_option maxRecDepth 100000 in
theorem ops_given {H : Type} {enc : TypeId × Value → H} {W : World} {held : Bool} {a : Option Addr} {n c : Nat} {d : DataW H} {p : List MemPlace}
    (h : DataW.Trod enc Try.prog W 0 (fun _ => true) held 23 (.slice a n c) d p) :
    ∀ i, i < n → ∃ b off kd A B x y z l, a = some ⟨b, off, none⟩ ∧ OpAt7 W b (off + i * 4) kd A B x y z l := by
  obtain ⟨fuel, hf⟩ := h
  intro i hi
  rcases open_slice Try.underlying23 hf with ⟨hcs, -⟩ | ⟨a', len, cap, m, k, D, Pl, hcs, _, hl, _, hmm, -, hx⟩
  · simp [Value.cells] at hcs
    omega
  · simp [Value.cells] at hcs
    obtain ⟨rfl, rfl, rfl⟩ := hcs
    simp only [if_true] at hmm
    have hsp : a'.spot = none := by
      obtain ⟨cs0, h0, _⟩ := hx 0 (by omega)
      rw [cellsOp] at h0
      obtain ⟨_, hlen0, hcell0⟩ := World.cells?_some h0
      have hc := hcell0 0 (by omega)
      rw [List.getElem?_eq_getElem (by omega)] at hc
      simpa [Addr.add] using World.cell?_spot hc
    obtain ⟨cs', h1, h2⟩ := hx i (by omega)
    rw [cellsOp] at h1
    obtain ⟨_, hlen, hcell⟩ := World.cells?_some h1
    obtain ⟨xs, k', _, _, _, hxl, hfs⟩ := DataW.trod_struct Try.underlying41 h2
    match xs, hxl, cs', hlen with
    | [y0, y1, y2, y3], _, [v0, v1, v2, v3], _ =>
      have f0 : DataW.trod enc Try.prog W 0 (fun _ => true) held k' 3 (([v0, v1, v2, v3].drop 0).take (Try.prog.cellsOf 3)) = some y0 := hfs 0 _ rfl
      have f1 : DataW.trod enc Try.prog W 0 (fun _ => true) held k' 3 (([v0, v1, v2, v3].drop 1).take (Try.prog.cellsOf 3)) = some y1 := hfs 1 _ rfl
      have f2 : DataW.trod enc Try.prog W 0 (fun _ => true) held k' 3 (([v0, v1, v2, v3].drop 2).take (Try.prog.cellsOf 3)) = some y2 := hfs 2 _ rfl
      have f3 : DataW.trod enc Try.prog W 0 (fun _ => true) held k' 39 (([v0, v1, v2, v3].drop 3).take (Try.prog.cellsOf 39)) = some y3 := hfs 3 _ rfl
      have e0 := hcell 0 (by omega)
      have e1 := hcell 1 (by omega)
      have e2 := hcell 2 (by omega)
      have e3 := hcell 3 (by omega)
      simp only [cellsInt, cellsBytes, List.drop_zero, List.drop_succ_cons, List.take_succ_cons, List.take_zero, List.getElem?_cons_zero, List.getElem?_cons_succ] at f0 f1 f2 f3 e0 e1 e2 e3
      obtain ⟨b, o, sp⟩ := a'
      have hsp' : sp = none := hsp
      subst hsp'
      simp only [addr_plain, Nat.add_zero] at e0 e1 e2 e3
      obtain ⟨z0, q0, -, w0⟩ := DataW.trod_int Try.underlying3 f0
      obtain ⟨z1, q1, -, w1⟩ := DataW.trod_int Try.underlying3 f1
      obtain ⟨z2, q2, -, w2⟩ := DataW.trod_int Try.underlying3 f2
      obtain ⟨x, y, z, l, q4, hll, hby, hyz, hz63, hnil⟩ := bytes_trod f3
      cases q0
      cases q1
      cases q2
      subst q4
      have hw1 : -9223372036854775808 ≤ z1 ∧ z1 ≤ 9223372036854775807 := by simpa [Lit.wf, IntKind.min, IntKind.max, IntKind.signed, IntKind.bits] using w1
      exact ⟨b, o, z0, z1, z2, x, y, z, l, rfl, ⟨e0, e1, e2, e3, cell_lt e0, hw1.1, hw1.2, hll, hyz, hz63, hby⟩⟩
end Go.Proofs.Ytldfpacdlephcaa
