/-
  A struct's store into a box that is known whole: only that block turns. No program's function in it. No conditions.
-/
import Derived.Test.YtggeccndmmmnjaaDoorTxRq
import Derived.Deep.MidRow
namespace Go.Proofs.YtggeccndmmmnjaaDoor.Tx
open Go Go.RowKit Go.Lib Md

theorem alloc1 (w : World) (c0 : Array Value) (t0 : TypeId) : Blk (w.alloc (.cells c0 t0)) w.heap.size t0 c0.toList ∧ (w.alloc (.cells c0 t0)).heap.size = w.heap.size + 1 ∧ Below w.heap.size w (w.alloc (.cells c0 t0)) :=
  ⟨Blk.new w c0 t0, by simp, (Below.refl _ _).alloc (Nat.le_refl _) _⟩
theorem alloc2 (w : World) (c0 c1 : Array Value) (t0 t1 : TypeId) : Blk ((w.alloc (.cells c0 t0)).alloc (.cells c1 t1)) w.heap.size t0 c0.toList ∧ Blk ((w.alloc (.cells c0 t0)).alloc (.cells c1 t1)) (w.heap.size + 1) t1 c1.toList ∧ ((w.alloc (.cells c0 t0)).alloc (.cells c1 t1)).heap.size = w.heap.size + 1 + 1 ∧ Below w.heap.size w ((w.alloc (.cells c0 t0)).alloc (.cells c1 t1)) := by
  obtain ⟨h0, z0, b0⟩ := alloc1 w c0 t0
  generalize w.alloc (.cells c0 t0) = w1 at *
  obtain ⟨h1, z1, b1⟩ := alloc1 w1 c1 t1
  rw [z0] at h1
  exact ⟨h0.below b1, h1, by rw [z1, z0], Below.then b0 b1⟩
theorem setCells_blk {b : Nat} {t : TypeId} : ∀ (vs : List Value) (i : Nat) (W : World) (pre cs : List Value), Blk W b t (pre ++ cs) → pre.length = i → vs.length = cs.length → Blk (W.setCells b i vs) b t (pre ++ vs)
  | [], _, _, pre, cs, h, _, hl => by
    have : cs = [] := List.eq_nil_of_length_eq_zero hl.symm
    rw [this] at h; exact h
  | v :: vs, i, W, pre, cs, h, hp, hl => by
    cases cs with
    | nil => simp at hl
    | cons c cs =>
      have h1 := h.set i v
      rw [show (pre ++ c :: cs).set i v = (pre ++ [v]) ++ cs by subst hp; simp] at h1
      have h2 := setCells_blk vs (i + 1) _ (pre ++ [v]) cs h1 (by simp [hp]) (by simpa using hl)
      rw [List.append_assoc] at h2
      exact h2
theorem setCells_only {b : Nat} : ∀ (vs : List Value) (i : Nat) (w W : World), Only (fun x => x = b) w W → Only (fun x => x = b) w (W.setCells b i vs)
  | [], _, _, _, h => h
  | v :: vs, i, w, _, h => setCells_only vs (i + 1) w _ (h.setCell (p := ⟨b, i, none⟩) (.inl rfl) v)
theorem Blk.there {w : World} {b : Nat} {t : TypeId} {cs : List Value} (h : Blk w b t cs) {n : Nat} (hn : n = cs.length) : w.there b 0 n := fun j hj => by
  have hj' : j < cs.length := by omega
  rw [Nat.zero_add]
  exact ⟨by rw [h.cell (List.getElem?_eq_getElem hj')]; rfl, h.frozen j⟩
section
variable {ops : Array Oper} {Q : Exit → Act → World → Prop} {rest : List Oper} {a : Act} {w : World}
theorem stRq {o : Oper} {x y : Operand} {b : Nat} {cs cs' : List Value} (hg : o.guard = none) (hd : o.dst = none) (ho : o.op = .store 27 x y) (hx : a.eval x = .pointer (some ⟨b, 0, none⟩)) (hy : a.eval y = .agg cs.toArray) (hb : Blk w b 27 cs') (hl' : cs'.length = 11) (hl : cs.length = 11) (h1 : ∀ u ∈ cs, u.oneCell' = true)
    (h : ∀ W, Blk W b 27 cs → Only (fun x => x = b) w W → wpList Tryd.prog ops Q rest a W) : wpList Tryd.prog ops Q (o :: rest) a w := by
  refine wpList_store_mid hg _ x y ho b 0 cs.toArray hx hy (Blk.there hb (by simp [hl, hl'])) (by rw [List.size_toArray, hl]; kernel_rfl) (all_oneCell_toArray h1) ?_
  rw [hd]
  exact h _ (setCells_blk cs 0 w [] cs' hb rfl (by omega)) (setCells_only cs 0 w w (Only.refl _ _))
theorem stCm {o : Oper} {x y : Operand} {b : Nat} {cs cs' : List Value} (hg : o.guard = none) (hd : o.dst = none) (ho : o.op = .store 35 x y) (hx : a.eval x = .pointer (some ⟨b, 0, none⟩)) (hy : a.eval y = .agg cs.toArray) (hb : Blk w b 35 cs') (hl' : cs'.length = 16) (hl : cs.length = 16) (h1 : ∀ u ∈ cs, u.oneCell' = true)
    (h : ∀ W, Blk W b 35 cs → Only (fun x => x = b) w W → wpList Tryd.prog ops Q rest a W) : wpList Tryd.prog ops Q (o :: rest) a w := by
  refine wpList_store_mid hg _ x y ho b 0 cs.toArray hx hy (Blk.there hb (by simp [hl, hl'])) (by rw [List.size_toArray, hl]; kernel_rfl) (all_oneCell_toArray h1) ?_
  rw [hd]
  exact h _ (setCells_blk cs 0 w [] cs' hb rfl (by omega)) (setCells_only cs 0 w w (Only.refl _ _))
theorem ldRq {o : Oper} {x : Operand} {b : Nat} {cs : List Value} (hg : o.guard = none) (ho : o.op = .load 27 x) (hx : a.eval x = .pointer (some ⟨b, 0, none⟩)) (hb : Blk w b 27 cs) (hl : cs.length = 11) (h : wpList Tryd.prog ops Q rest (a.put o.dst (.agg cs.toArray)) w) : wpList Tryd.prog ops Q (o :: rest) a w :=
  wpList_load_mid hg 27 x ho b 0 hx cs _ (fun j v hj => by rw [Nat.zero_add]; exact hb.cell hj) Tryd.underlying27 rfl (by rw [hl]; kernel_rfl) h
theorem ldCm {o : Oper} {x : Operand} {b : Nat} {cs : List Value} (hg : o.guard = none) (ho : o.op = .load 35 x) (hx : a.eval x = .pointer (some ⟨b, 0, none⟩)) (hb : Blk w b 35 cs) (hl : cs.length = 16) (h : wpList Tryd.prog ops Q rest (a.put o.dst (.agg cs.toArray)) w) : wpList Tryd.prog ops Q (o :: rest) a w :=
  wpList_load_mid hg 35 x ho b 0 hx cs _ (fun j v hj => by rw [Nat.zero_add]; exact hb.cell hj) Tryd.underlying35 rfl (by rw [hl]; kernel_rfl) h
end
end Go.Proofs.YtggeccndmmmnjaaDoor.Tx
