/-
  The boxes that a method of the reader makes: its result's, and a command's; what a method comes to. No conditions.
-/
import Derived.Test.YtggeccndmmmnjaaDoorTxOne
namespace Go.Proofs.YtggeccndmmmnjaaDoor.Tx
open Go Go.RowKit Go.Lib Md

/-- The package variables, apart from the reader. -/
structure VarsR (R : Nat) (w : World) : Prop where
  v : Nu.Vars w
  n1 : 3 ≠ R
  n2 : 4 ≠ R
  n3 : 5 ≠ R
theorem VarsR.only {R : Nat} {w w' : World} (h : VarsR R w) (ho : Only (fun b => b = R) w w') : VarsR R w' := by
  obtain ⟨⟨⟨e0, h0, i0⟩, ⟨e1, h1, i1⟩, ht⟩, n1, n2, n3⟩ := h
  have l0 := cell_lt h0
  have l1 := cell_lt h1
  refine ⟨⟨⟨e0, (ho.cell (p := ⟨3, 0, none⟩) l0 n1).trans h0, i0⟩, ⟨e1, (ho.cell (p := ⟨4, 0, none⟩) l1 n2).trans h1, i1⟩, ?_⟩, n1, n2, n3⟩
  have hg := Nu.gTab
  unfold Lib.TabIs World.var? at ht ⊢
  rw [hg] at ht ⊢
  by_cases hlt : 5 < w.heap.size
  · have e := ho.block _ hlt n3
    simp only [Option.bind_some] at ht ⊢
    rw [e]; exact ht
  · exfalso
    simp only [Option.bind_some] at ht
    rw [Array.getElem?_eq_none (by omega)] at ht
    cases ht
theorem VarsR.below {R : Nat} {w w' : World} (h : VarsR R w) (hb : Below w.heap.size w w') : VarsR R w' := h.only (Below.only hb)
/-- What a method of the reader comes to. -/
def RdP (R : Nat) (w : World) (x : Rd) (e : Ending) (w' : World) : Prop :=
  Only (fun b => b = R) w w' ∧
  match x with
  | .done q used => ∃ v, e = .returned v ∧ IsRq w.heap.size q v w' ∧ ∃ c0 c1 c2 c3, Blk w' R 43 [c0, c1, c2, c3, .int .i64 (used : Int)]
  | .up why skip used => e = .panicked [upE why] ∧ ∃ c0 c1 c2, Blk w' R 43 [c0, c1, c2, .int .i64 (skip : Int), .int .i64 (used : Int)]
theorem rdp_up {R : Nat} {w w' : World} {x : Rd} {s : RS} {a : Option Addr} {c : Nat} {why : List UInt8} {skip used : Nat} (hx : x = .up why skip used) (h : Rdr R s a c w') (hs : s.skip = skip) (hu : s.used = used) (ho : Only (fun b => b = R) w w') : RdP R w x (.panicked [upE why]) w' := by
  subst hx hs hu
  exact ⟨ho, rfl, _, _, _, h.blk⟩
theorem rdp_done {R : Nat} {w w' : World} {x : Rd} {s : RS} {a : Option Addr} {c : Nat} {q : Rq} {used : Nat} {v : Value} (hx : x = .done q used) (h : Rdr R s a c w') (hu : s.used = used) (ho : Only (fun b => b = R) w w') (hq : IsRq w.heap.size q v w') : RdP R w x (.returned v) w' := by
  subst hx hu
  exact ⟨ho, v, rfl, hq, _, _, _, _, h.blk⟩
theorem IsRq.only {D : Nat → Prop} {n₀ : Nat} {q : Rq} {v : Value} {w w' : World} (h : IsRq n₀ q v w) (ho : Only D w w') (hd : ∀ b, n₀ ≤ b → b < w.heap.size → ¬ D b) : IsRq n₀ q v w' := by
  obtain ⟨cs, hv, hc⟩ := h
  exact ⟨cs, hv, hc.only ho hd⟩
theorem IsRq.below {n₀ : Nat} {q : Rq} {v : Value} {w w' : World} (h : IsRq n₀ q v w) (hb : Below w.heap.size w w') : IsRq n₀ q v w' := h.only (D := fun _ => False) (Below.only hb) (fun _ _ _ e => e)
theorem IsRq.mono {n₀ n₁ : Nat} {q : Rq} {v : Value} {w : World} (h : IsRq n₀ q v w) (hn : n₁ ≤ n₀) : IsRq n₁ q v w := by
  obtain ⟨cs, hv, hc⟩ := h
  exact ⟨cs, hv, hc.mono hn⟩
/-- The result's box, and the reader. -/
structure B1 (R : Nat) (s : RS) (a : Option Addr) (c : Nat) (w W : World) : Prop where
  rd : Rdr R s a c W
  res : Blk W w.heap.size 27 (rqc noRq (.slice none 0 0))
  only : Only (fun b => b = R) w W
  lt : R < w.heap.size
  vw : VarsR R w
theorem B1.vars {R : Nat} {s : RS} {a : Option Addr} {c : Nat} {w W : World} (h : B1 R s a c w W) : Nu.Vars W := (h.vw.only h.only).v
/-- And a command's box at D. -/
structure B2 (R : Nat) (s : RS) (a : Option Addr) (c : Nat) (D : Nat) (cm : Cm) (w W : World) : Prop where
  b1 : B1 R s a c w W
  box : Blk W D 35 (cc cm)
  ge : w.heap.size < D
  ap : ∀ b o p, a = some ⟨b, o, p⟩ → b ≠ D
section
variable {R D c c' : Nat} {s s' : RS} {a a' : Option Addr} {cm : Cm} {w W W' : World}
theorem B1.start (h : Rdr R s a c w) (hv : VarsR R w) : B1 R s a c w (w.alloc (.cells #[.int .i64 0, .slice none 0 0, .bool false, .bool false, .string ⟨#[]⟩, .string ⟨#[]⟩, .int .i64 0, .bool false, .string ⟨#[]⟩, .slice none 0 0, .string ⟨#[]⟩] 27)) := by
  obtain ⟨h0, z0, b0⟩ := alloc1 w #[.int .i64 0, .slice none 0 0, .bool false, .bool false, .string ⟨#[]⟩, .string ⟨#[]⟩, .int .i64 0, .bool false, .string ⟨#[]⟩, .slice none 0 0, .string ⟨#[]⟩] 27
  exact ⟨h.below b0, h0, Below.only b0, h.blk.lt, hv⟩
theorem B1.below (h : B1 R s a c w W) (hb : Below W.heap.size W W') : B1 R s a c w W' := ⟨h.rd.below hb, h.res.below hb, Only.trans h.only (Below.only hb (D := fun b => b = R)) (fun _ e => .inl e), h.lt, h.vw⟩
theorem B1.turn (h : B1 R s a c w W) (hr : Rdr R s' a' c' W') (ho : Only (fun b => b = R) W W') : B1 R s' a' c' w W' := ⟨hr, h.res.only ho (by have := h.lt; omega), Only.trans h.only ho (fun _ e => .inl e), h.lt, h.vw⟩
theorem B2.start (h : B1 R s a c w W) (cs : Array Value) (hc : cs.toList = cc cm) : B2 R s a c W.heap.size cm w (W.alloc (.cells cs 35)) := by
  obtain ⟨k0, z0, b0⟩ := alloc1 W cs 35
  rw [hc] at k0
  exact ⟨h.below b0, k0, h.res.lt, fun b o p e hb => by have := h.rd.old b o p e; omega⟩
theorem B2.below (h : B2 R s a c D cm w W) (hb : Below W.heap.size W W') : B2 R s a c D cm w W' := ⟨h.b1.below hb, h.box.below hb, h.ge, h.ap⟩
theorem B2.turn (h : B2 R s a c D cm w W) (hr : Rdr R s' a' c' W') (ho : Only (fun b => b = R) W W') (hap : ∀ b o p, a' = some ⟨b, o, p⟩ → b ≠ D) : B2 R s' a' c' D cm w W' := ⟨h.b1.turn hr ho, h.box.only ho (by have := h.b1.lt; have := h.ge; omega), h.ge, hap⟩
theorem B2.set {cm' : Cm} (h : B2 R s a c D cm w W) (i : Nat) (u : Value) (hc : (cc cm).set i u = cc cm') : B2 R s a c D cm' w (W.setCell ⟨D, i, none⟩ u) := by
  have ho : Only (fun b => b = D) W (W.setCell ⟨D, i, none⟩ u) := oset (Only.refl _ W) i u
  have h1 := h.b1.lt
  have h2 := h.ge
  exact ⟨⟨h.b1.rd.only ho (by omega) h.ap, h.b1.res.only ho (by omega), Only.trans h.b1.only ho (fun x e => .inr (by omega)), h1, h.b1.vw⟩, by rw [← hc]; exact h.box.set i u, h2, h.ap⟩
/-- The request is laid into the result's box. -/
theorem B1.laid (h : B1 R s a c w W) {q : Rq} {n₀ : Nat} {cs : List Value} {W'' : World} (hq : IsRq n₀ q (.agg cs.toArray) W) (hn : w.heap.size < n₀) (ho : Only (fun b => b = w.heap.size) W W'') {x : Rd} {used : Nat} (hx : x = .done q used) (hu : s.used = used) : RdP R w x (.returned (.agg cs.toArray)) W'' := by
  have h1 := h.lt
  subst hx hu
  exact ⟨Only.trans h.only ho (fun x e => .inr (by omega)), _, rfl, (hq.only ho (fun b hb _ e => by omega)).mono (by omega), _, _, _, _, h.rd.blk.only ho (by omega)⟩
theorem res_rqL {fn : Func} {K B : Nat} {cs : List Value} (hl : cs.length = 11) (h : fn.results = #[.cell K 27]) {tmps : Array Value} (hb : Blk W B 27 cs) (h2 : tmps[K]?.getD undef = .pointer (some ⟨B, 0, none⟩)) : (results fn tmps).run Tryd.prog W = .ok (.agg cs.toArray) W := by
  match cs, hl with
  | [v0, v1, v2, v3, v4, v5, v6, v7, v8, v9, v10], _ => exact res_rq h hb h2
theorem isrq_cells {n₀ : Nat} {q : Rq} {v : Value} (h : IsRq n₀ q v W) : ∃ cs : List Value, v = .agg cs.toArray ∧ cs.length = 11 ∧ ∀ u ∈ cs, u.oneCell' = true := by
  obtain ⟨cs, hv, hc⟩ := h
  exact ⟨_, hv, rfl, rq_ok q (hvs hc)⟩
end
end Go.Proofs.YtggeccndmmmnjaaDoor.Tx
