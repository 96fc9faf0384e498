/-
  What the claims of layer 8 share: how an item and a slice of bytes that came in are read. No conditions.
-/
import Derived.Test.YtdbaldkinjdeaaaItemShown
import Derived.SliceStrings
import Derived.SizedLaws
import Derived.Handy
import Derived.Lib.SmallJoins
import Derived.Deep.Fields
namespace Go.Proofs.Ytdbaldkinjdeaaa
open Go Go.ChangeShapes Go.WideShapes Go.ChangeAt Go.RowKit Go.Deep Go.Joins

theorem own : ownKnob Try.prog.godebug = none := by kernel_rfl
theorem laidOut : laidOutB Try.prog = true := by kernel_rfl
theorem cellsByte : Try.prog.cellsOf 5 = 1 := by kernel_rfl
theorem cellsItem : Try.prog.cellsOf 25 = 8 := by kernel_rfl
theorem bytesByte : Try.prog.bytesOf 5 = 1 := by kernel_rfl

theorem bytes_given {H : Type} {enc : TypeId × Value → H} {W : World} {held : Bool} {a : Option Addr} {n c : Nat} {d : DataW H} {p : List MemPlace}
    (h : DataW.Trod enc Try.prog W 0 (fun _ => true) held 27 (.slice a n c) d p) : ∃ l : List UInt8, l.length = n ∧ Byts W (.slice a n c) l ∧ n ≤ c ∧ (n = 0 ∨ ∃ elems spare : List (DataW H), d = .slice elems spare ∧ n ≤ elems.length) ∧ (a = none → c = 0) := by
  obtain ⟨fuel, hf⟩ := h
  rcases open_ints Try.underlying27 Try.underlying5 cellsByte hf with ⟨hcs, -⟩ | ⟨a', len, cap, ss, hcs, _, hl, _, hz, hdd, hcell, hwf⟩
  · simp [Value.cells] at hcs
    obtain ⟨rfl, rfl, rfl⟩ := hcs
    exact ⟨[], rfl, ⟨none, 0, rfl, fun j x hj => by simp at hj⟩, Nat.zero_le _, .inl rfl, fun _ => rfl⟩
  · simp [Value.cells] at hcs
    obtain ⟨rfl, rfl, rfl⟩ := hcs
    simp only [if_true] at hz
    have hxl : ((ss.take n).map fun z => UInt8.ofNat z.toNat).length = n := by rw [List.length_map, List.length_take]; omega
    refine ⟨(ss.take n).map fun z => UInt8.ofNat z.toNat, hxl, ⟨some a', c, by rw [hxl], fun j b hj => ?_⟩, hl, .inr ⟨lits .u8 (ss.take n), lits .u8 (ss.drop n), (Prod.mk.inj hdd).1, by rw [lits, List.length_map, List.length_take]; omega⟩, fun e => by cases e⟩
    rw [List.getElem?_map, List.getElem?_take] at hj
    by_cases hjn : j < n
    · rw [if_pos hjn] at hj
      have hss : ss[j]? = some ss[j] := List.getElem?_eq_getElem (by omega)
      rw [hss] at hj
      have hb : UInt8.ofNat ss[j].toNat = b := by simpa using hj
      have hc := hcell j (by omega)
      have hsp : a'.spot = none := by simpa [Addr.add] using World.cell?_spot (hcell 0 (by omega))
      obtain ⟨b', o, sp⟩ := a'
      have hsp' : sp = none := hsp
      subst hsp'
      rw [addr_plain, List.getD, hss] at hc
      have hw := hwf ss[j] (List.getElem_mem _)
      have hr : 0 ≤ ss[j] ∧ ss[j] ≤ 255 := by simpa [Lit.wf, IntKind.min, IntKind.max, IntKind.signed, IntKind.bits] using hw
      have e : ((b.toNat : Nat) : Int) = ss[j] := by
        rw [← hb, UInt8.toNat_ofNat', Nat.mod_eq_of_lt (by omega)]; omega
      refine ⟨b', o, rfl, cell_lt hc, ?_⟩
      rw [e]; exact hc
    · rw [if_neg hjn] at hj; simp at hj

theorem open_agg8 {H : Type} {enc : TypeId × Value → H} {P : Program} {w : World} {base : Nat} {spare : Nat → Bool} {held : Bool} {r : Reach} {b0 : Nat} {t : TypeId} {f0 f1 f2 f3 f4 f5 f6 f7 : Field} {v : Value} {d : DataW H} {p : List MemPlace}
    (hs : P.underlying t = some (.struct #[f0, f1, f2, f3, f4, f5, f6, f7])) (hone : oneCellFields P #[f0, f1, f2, f3, f4, f5, f6, f7] = true) (hC : P.cellsOf t = 8) (hv : Value.okWide P w r b0 t v) (h : DataW.Trod enc P w base spare held t v d p) :
    ∃ (v0 v1 v2 v3 v4 v5 v6 v7 : Value) (y0 y1 y2 y3 y4 y5 y6 y7 : DataW H × List MemPlace) (n : Nat), v = .agg #[v0, v1, v2, v3, v4, v5, v6, v7] ∧ d = .agg [y0.1, y1.1, y2.1, y3.1, y4.1, y5.1, y6.1, y7.1] ∧ p = y0.2 ++ (y1.2 ++ (y2.2 ++ (y3.2 ++ (y4.2 ++ (y5.2 ++ (y6.2 ++ (y7.2))))))) ∧
      DataW.trod enc P w base spare held n f0.type [v0] = some y0 ∧ DataW.trod enc P w base spare held n f1.type [v1] = some y1 ∧ DataW.trod enc P w base spare held n f2.type [v2] = some y2 ∧ DataW.trod enc P w base spare held n f3.type [v3] = some y3 ∧ DataW.trod enc P w base spare held n f4.type [v4] = some y4 ∧ DataW.trod enc P w base spare held n f5.type [v5] = some y5 ∧ DataW.trod enc P w base spare held n f6.type [v6] = some y6 ∧ DataW.trod enc P w base spare held n f7.type [v7] = some y7 := by
  obtain ⟨cs, rfl, hsz⟩ := okWide_struct hs hv
  obtain ⟨l⟩ := cs
  match l, hsz.trans hC with
  | [c0, c1, c2, c3, c4, c5, c6, c7], _ =>
    obtain ⟨fuel, hf⟩ := h
    obtain ⟨xs, n, _, hx, _, hlen, hg⟩ := DataW.trod_struct hs hf
    obtain ⟨o0, k0⟩ := hone_of hone 0 f0 rfl
    obtain ⟨o1, k1⟩ := hone_of hone 1 f1 rfl
    obtain ⟨o2, k2⟩ := hone_of hone 2 f2 rfl
    obtain ⟨o3, k3⟩ := hone_of hone 3 f3 rfl
    obtain ⟨o4, k4⟩ := hone_of hone 4 f4 rfl
    obtain ⟨o5, k5⟩ := hone_of hone 5 f5 rfl
    obtain ⟨o6, k6⟩ := hone_of hone 6 f6 rfl
    obtain ⟨o7, k7⟩ := hone_of hone 7 f7 rfl
    match xs, hlen with
    | [y0, y1, y2, y3, y4, y5, y6, y7], _ =>
      simp only [Prod.mk.injEq] at hx
      exact ⟨c0, c1, c2, c3, c4, c5, c6, c7, y0, y1, y2, y3, y4, y5, y6, y7, n, rfl, by simpa using hx.1, by simpa using hx.2, by simpa [Value.cells, o0, k0] using hg 0 f0 rfl, by simpa [Value.cells, o1, k1] using hg 1 f1 rfl, by simpa [Value.cells, o2, k2] using hg 2 f2 rfl, by simpa [Value.cells, o3, k3] using hg 3 f3 rfl, by simpa [Value.cells, o4, k4] using hg 4 f4 rfl, by simpa [Value.cells, o5, k5] using hg 5 f5 rfl, by simpa [Value.cells, o6, k6] using hg 6 f6 rfl, by simpa [Value.cells, o7, k7] using hg 7 f7 rfl⟩

theorem open_item {H : Type} {enc : TypeId × Value → H} {W : World} {held : Bool} {r : Reach} {b0 : Nat} {v : Value} {d : DataW H} {p : List MemPlace} (hv : Value.okWide Try.prog W r b0 25 v)
    (h : DataW.Trod enc Try.prog W 0 (fun _ => true) held 25 v d p) : ∃ x : It, v = x.v ∧ x.Ok ∧ p = [] ∧ ∃ rest : List (DataW H), d = .agg (.lit (.string x.key.data.toList) :: rest) := by
  obtain ⟨v0, v1, v2, v3, v4, v5, v6, v7, y0, y1, y2, y3, y4, y5, y6, y7, n, rfl, rfl, rfl, t0, t1, t2, t3, t4, t5, t6, t7⟩ := open_agg8 Try.underlying25 (by kernel_rfl) cellsItem hv h
  obtain ⟨s0, e0, g0, _⟩ := DataW.trod_string Try.underlying9 t0
  obtain ⟨z1, e1, g1, w1⟩ := DataW.trod_int Try.underlying22 t1
  obtain ⟨s2, e2, g2, _⟩ := DataW.trod_string Try.underlying9 t2
  obtain ⟨z3, e3, g3, w3⟩ := DataW.trod_int Try.underlying2 t3
  obtain ⟨z4, e4, g4, w4⟩ := DataW.trod_int Try.underlying23 t4
  obtain ⟨z5, e5, g5, w5⟩ := DataW.trod_int Try.underlying2 t5
  obtain ⟨b6, e6, g6⟩ := DataW.trod_bool Try.underlying4 t6
  obtain ⟨b7, e7, g7⟩ := DataW.trod_bool Try.underlying4 t7
  simp only [List.cons.injEq, and_true] at e0 e1 e2 e3 e4 e5 e6 e7
  subst e0 e1 e2 e3 e4 e5 e6 e7 g0 g1 g2 g3 g4 g5 g6 g7
  have h1 : 0 ≤ z1 ∧ z1 ≤ 4294967295 := by simpa [Lit.wf, IntKind.min, IntKind.max, IntKind.signed, IntKind.bits] using w1
  have h3 : -9223372036854775808 ≤ z3 ∧ z3 ≤ 9223372036854775807 := by simpa [Lit.wf, IntKind.min, IntKind.max, IntKind.signed, IntKind.bits] using w3
  have h4 : 0 ≤ z4 ∧ z4 ≤ 18446744073709551615 := by simpa [Lit.wf, IntKind.min, IntKind.max, IntKind.signed, IntKind.bits] using w4
  have h5 : -9223372036854775808 ≤ z5 ∧ z5 ≤ 9223372036854775807 := by simpa [Lit.wf, IntKind.min, IntKind.max, IntKind.signed, IntKind.bits] using w5
  obtain ⟨n1, rfl⟩ : ∃ m : Nat, z1 = m := ⟨z1.toNat, by omega⟩
  obtain ⟨n4, rfl⟩ : ∃ m : Nat, z4 = m := ⟨z4.toNat, by omega⟩
  exact ⟨⟨s0, n1, s2, z3, n4, z5, b6, b7⟩, rfl, ⟨by show n1 ≤ _; omega, h3.1, h3.2, by show n4 ≤ _; omega, h5.1, h5.2⟩, rfl, _, rfl⟩

theorem reach_small : reachBytes = 140737488351232 := by decide
theorem item_sized {H : Type} {ts : List TypeId} {ds : List (DataW H)} (h : (DataW.weightsEach Try.prog ts ds).all (· ≤ reachBytes) = true) {j : Nat} {l : List UInt8} {rest : List (DataW H)} (ht : ts[j]? = some 25) (hd : ds[j]? = some (.agg (.lit (.string l) :: rest))) :
    l.length ≤ 140737488351232 := by
  have := List.all_eq_true.1 h l.length (DataW.weights_mem_each ht hd l.length (by
    unfold DataW.weights
    rw [Try.underlying25]
    exact DataW.weights_mem_each (j := 0) (t := 9) rfl rfl l.length (by simp [DataW.weights])))
  have h2 : l.length ≤ reachBytes := by simpa using this
  rwa [reach_small] at h2
theorem bytes_sized {H : Type} {ts : List TypeId} {ds : List (DataW H)} {d : DataW H} {n : Nat} (h : (DataW.weightsEach Try.prog ts ds).all (· ≤ reachBytes) = true) {j : Nat} (ht : ts[j]? = some 27) (hd : ds[j]? = some d)
    (hn : n = 0 ∨ ∃ elems spare : List (DataW H), d = .slice elems spare ∧ n ≤ elems.length) : n ≤ 140737488351232 := by
  rcases hn with rfl | ⟨elems, spare, rfl, hn⟩
  · exact Nat.zero_le _
  · have := sized_slice h ht hd Try.underlying27
    rw [bytesByte, Nat.mul_one, reach_small] at this
    omega
end Go.Proofs.Ytdbaldkinjdeaaa
