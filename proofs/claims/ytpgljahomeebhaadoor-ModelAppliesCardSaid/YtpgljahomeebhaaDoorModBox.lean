/-
  Boxes that the document's own get, store, math, remove lay their arguments and answers into: what is laid, what stays; the walk through a region that only reads ahead of its end. No conditions.
-/
import Derived.Test.YtpgljahomeebhaaDoorModDrop
import Derived.StillTailTactics
namespace Go.Proofs.YtpgljahomeebhaaDoor.Md
open Go Go.RowKit Go.Lib

theorem res_sa {fn : Func} {R T : Nat} (h : fn.results = #[.cell R 25, .cell T 35]) {tmps : Array Value} {w : World} {B D : Nat} {v : Value} {n : Nat} (hv : ∃ a c, v = .slice a n c) {cas fl : Int} {a : An} (hb : Blk w B 25 [v, .int .u64 cas, .int .i64 fl]) (hd : Blk w D 35 a.cells) (h2 : tmps[R]?.getD undef = .pointer (some ⟨B, 0, none⟩)) (h3 : tmps[T]?.getD undef = .pointer (some ⟨D, 0, none⟩)) :
    (results fn tmps).run Tryd.prog w = .ok (.tuple #[.agg #[v, .int .u64 cas, .int .i64 fl], a.v]) w := by
  obtain ⟨av, cv, rfl⟩ := hv
  have q0 := hb.cell (i := 0) rfl
  have q1 := hb.cell (i := 1) rfl
  have q2 := hb.cell (i := 2) rfl
  have r0 := hd.cell (i := 0) rfl
  have r1 := hd.cell (i := 1) rfl
  have r2 := hd.cell (i := 2) rfl
  have r3 := hd.cell (i := 3) rfl
  have r4 := hd.cell (i := 4) rfl
  have r5 := hd.cell (i := 5) rfl
  have r6 := hd.cell (i := 6) rfl
  have r7 := hd.cell (i := 7) rfl
  have r8 := hd.cell (i := 8) rfl
  have r9 := hd.cell (i := 9) rfl
  have r10 := hd.cell (i := 10) rfl
  have r11 := hd.cell (i := 11) rfl
  have r12 := hd.cell (i := 12) rfl
  simp [results, h, h2, h3, go_sem, q0, q1, q2, r0, r1, r2, r3, r4, r5, r6, r7, r8, r9, r10, r11, r12, An.v, An.cells]
/-! Several cells of one block are laid -/
def stc (W : World) (b : Nat) : List Value → Nat → World
  | [], _ => W
  | v :: l, i => stc (W.setCell ⟨b, i, none⟩ v) b l (i + 1)
theorem stc_blk {b : Nat} {t : TypeId} : ∀ (vs : List Value) (i : Nat) (W : World) (pre cs : List Value), Blk W b t (pre ++ cs) → pre.length = i → vs.length = cs.length → Blk (stc W b vs i) b t (pre ++ vs)
  | [], _, _, pre, cs, h, _, hl => by
    have : cs = [] := List.eq_nil_of_length_eq_zero hl.symm
    rw [this] at h; exact h
  | v :: vs, i, W, pre, cs, h, hp, hl => by
    cases cs with
    | nil => simp at hl
    | cons c cs =>
      have h1 := h.set i v
      rw [show (pre ++ c :: cs).set i v = (pre ++ [v]) ++ cs by subst hp; simp] at h1
      have h2 := stc_blk vs (i + 1) _ (pre ++ [v]) cs h1 (by simp [hp]) (by simpa using hl)
      rw [List.append_assoc] at h2
      exact h2
theorem stc_all {b : Nat} {t : TypeId} {W : World} {cs vs : List Value} (h : Blk W b t cs) (hl : vs.length = cs.length) : Blk (stc W b vs 0) b t vs := stc_blk vs 0 W [] cs h rfl hl
theorem stc_mid {b : Nat} {t : TypeId} : ∀ (vs : List Value) (i : Nat) (W : World) (pre cs post : List Value), Blk W b t (pre ++ (cs ++ post)) → pre.length = i → vs.length = cs.length → Blk (stc W b vs i) b t (pre ++ (vs ++ post))
  | [], _, _, pre, cs, post, h, _, hl => by
    have : cs = [] := List.eq_nil_of_length_eq_zero hl.symm
    rw [this] at h; exact h
  | v :: vs, i, W, pre, cs, post, h, hp, hl => by
    cases cs with
    | nil => simp at hl
    | cons c cs =>
      have h1 := h.set i v
      rw [show (pre ++ (c :: cs ++ post)).set i v = (pre ++ [v]) ++ (cs ++ post) by subst hp; simp] at h1
      have h2 := stc_mid vs (i + 1) _ (pre ++ [v]) cs post h1 (by simp [hp]) (by simpa using hl)
      rw [List.append_assoc] at h2
      exact h2
theorem stc_other {b b' : Nat} {t : TypeId} {cs : List Value} (hb : b' ≠ b) : ∀ (vs : List Value) (i : Nat) (W : World), Blk W b' t cs → Blk (stc W b vs i) b' t cs
  | [], _, _, h => h
  | v :: vs, i, _, h => stc_other hb vs (i + 1) _ (h.setOther (p := ⟨b, i, none⟩) hb v)
theorem stc_below {b B : Nat} {w : World} (hb : B ≤ b) : ∀ (vs : List Value) (i : Nat) (W : World), Below B w W → Below B w (stc W b vs i)
  | [], _, _, h => h
  | v :: vs, i, _, h => stc_below hb vs (i + 1) _ (h.setCell (p := ⟨b, i, none⟩) hb v)
/-- Five boxes. -/
structure W5 (w0 : World) (c0 c1 c2 c3 c4 : List Value) (W : World) : Prop where
  b0 : Blk W w0.heap.size 25 c0
  b1 : Blk W (w0.heap.size + 1) 28 c1
  b2 : Blk W (w0.heap.size + 1 + 1) 33 c2
  b3 : Blk W (w0.heap.size + 1 + 1 + 1) 25 c3
  b4 : Blk W (w0.heap.size + 1 + 1 + 1 + 1) 35 c4
  below : Below w0.heap.size w0 W
theorem W5.step {w0 W W' : World} {c0 c1 c2 c3 c4 : List Value} (h : W5 w0 c0 c1 c2 c3 c4 W) (hb : Below W.heap.size W W') : W5 w0 c0 c1 c2 c3 c4 W' := ⟨h.b0.below hb, h.b1.below hb, h.b2.below hb, h.b3.below hb, h.b4.below hb, Below.then h.below hb⟩
theorem W5.begin (w : World) (c0 c1 c2 c3 c4 : Array Value) : W5 w c0.toList c1.toList c2.toList c3.toList c4.toList (((((w.alloc (.cells c0 25)).alloc (.cells c1 28)).alloc (.cells c2 33)).alloc (.cells c3 25)).alloc (.cells c4 35)) := by
  have h0 := Blk.new w c0 25
  have q1 := abelow w (.cells c0 25)
  generalize hw1 : w.alloc (.cells c0 25) = w1 at *
  have z1 : w1.heap.size = w.heap.size + 1 := by rw [← hw1]; simp
  have h1 := Blk.new w1 c1 28
  have q2 := abelow w1 (.cells c1 28)
  rw [z1] at h1
  generalize hw2 : w1.alloc (.cells c1 28) = w2 at *
  have z2 : w2.heap.size = w.heap.size + 1 + 1 := by rw [← hw2]; simp [z1]
  have h2 := Blk.new w2 c2 33
  have q3 := abelow w2 (.cells c2 33)
  rw [z2] at h2
  generalize hw3 : w2.alloc (.cells c2 33) = w3 at *
  have z3 : w3.heap.size = w.heap.size + 1 + 1 + 1 := by rw [← hw3]; simp [z2]
  have h3 := Blk.new w3 c3 25
  have q4 := abelow w3 (.cells c3 25)
  rw [z3] at h3
  generalize hw4 : w3.alloc (.cells c3 25) = w4 at *
  have z4 : w4.heap.size = w.heap.size + 1 + 1 + 1 + 1 := by rw [← hw4]; simp [z3]
  have h4 := Blk.new w4 c4 35
  have q5 := abelow w4 (.cells c4 35)
  rw [z4] at h4
  exact ⟨(((h0.below q2).below q3).below q4).below q5, ((h1.below q3).below q4).below q5, (h2.below q4).below q5, h3.below q5, h4, Below.then (Below.then (Below.then (Below.then q1 q2) q3) q4) q5⟩
/-- A box is laid anew. -/
theorem W5.st2 {w0 W : World} {c0 c1 c2 c3 c4 vs : List Value} (h : W5 w0 c0 c1 c2 c3 c4 W) (hl : vs.length = c2.length) : W5 w0 c0 c1 vs c3 c4 (stc W (w0.heap.size + 1 + 1) vs 0) :=
  ⟨stc_other (by omega) vs 0 W h.b0, stc_other (by omega) vs 0 W h.b1, stc_all h.b2 hl, stc_other (by omega) vs 0 W h.b3, stc_other (by omega) vs 0 W h.b4, stc_below (by omega) vs 0 W h.below⟩
theorem W5.st3 {w0 W : World} {c0 c1 c2 c3 c4 vs : List Value} (h : W5 w0 c0 c1 c2 c3 c4 W) (hl : vs.length = c3.length) : W5 w0 c0 c1 c2 vs c4 (stc W (w0.heap.size + 1 + 1 + 1) vs 0) :=
  ⟨stc_other (by omega) vs 0 W h.b0, stc_other (by omega) vs 0 W h.b1, stc_other (by omega) vs 0 W h.b2, stc_all h.b3 hl, stc_other (by omega) vs 0 W h.b4, stc_below (by omega) vs 0 W h.below⟩
theorem W5.st4 {w0 W : World} {c0 c1 c2 c3 c4 vs : List Value} (h : W5 w0 c0 c1 c2 c3 c4 W) (hl : vs.length = c4.length) : W5 w0 c0 c1 c2 c3 vs (stc W (w0.heap.size + 1 + 1 + 1 + 1) vs 0) :=
  ⟨stc_other (by omega) vs 0 W h.b0, stc_other (by omega) vs 0 W h.b1, stc_other (by omega) vs 0 W h.b2, stc_other (by omega) vs 0 W h.b3, stc_all h.b4 hl, stc_below (by omega) vs 0 W h.below⟩
theorem W5.cell0 {w0 W : World} {c0 c1 c2 c3 c4 : List Value} (h : W5 w0 c0 c1 c2 c3 c4 W) (i : Nat) (u : Value) : W5 w0 (c0.set i u) c1 c2 c3 c4 (W.setCell ⟨w0.heap.size, i, none⟩ u) :=
  ⟨h.b0.set i u, h.b1.setOther (p := ⟨w0.heap.size, i, none⟩) (by show w0.heap.size + 1 ≠ w0.heap.size; omega) u, h.b2.setOther (p := ⟨w0.heap.size, i, none⟩) (by show w0.heap.size + 1 + 1 ≠ w0.heap.size; omega) u, h.b3.setOther (p := ⟨w0.heap.size, i, none⟩) (by show w0.heap.size + 1 + 1 + 1 ≠ w0.heap.size; omega) u, h.b4.setOther (p := ⟨w0.heap.size, i, none⟩) (by show w0.heap.size + 1 + 1 + 1 + 1 ≠ w0.heap.size; omega) u, h.below.setCell (p := ⟨w0.heap.size, i, none⟩) (Nat.le_refl _) u⟩
theorem W5.st0 {w0 W : World} {c0 c1 c2 c3 c4 vs : List Value} (h : W5 w0 c0 c1 c2 c3 c4 W) (hl : vs.length = c0.length) : W5 w0 vs c1 c2 c3 c4 (stc W w0.heap.size vs 0) :=
  ⟨stc_all h.b0 hl, stc_other (by omega) vs 0 W h.b1, stc_other (by omega) vs 0 W h.b2, stc_other (by omega) vs 0 W h.b3, stc_other (by omega) vs 0 W h.b4, stc_below (Nat.le_refl _) vs 0 W h.below⟩
theorem W5.cell2 {w0 W : World} {c0 c1 c2 c3 c4 : List Value} (h : W5 w0 c0 c1 c2 c3 c4 W) (i : Nat) (u : Value) : W5 w0 c0 c1 (c2.set i u) c3 c4 (W.setCell ⟨w0.heap.size + 1 + 1, i, none⟩ u) :=
  ⟨h.b0.setOther (p := ⟨w0.heap.size + 1 + 1, i, none⟩) (by show w0.heap.size ≠ w0.heap.size + 1 + 1; omega) u, h.b1.setOther (p := ⟨w0.heap.size + 1 + 1, i, none⟩) (by show w0.heap.size + 1 ≠ w0.heap.size + 1 + 1; omega) u, h.b2.set i u, h.b3.setOther (p := ⟨w0.heap.size + 1 + 1, i, none⟩) (by show w0.heap.size + 1 + 1 + 1 ≠ w0.heap.size + 1 + 1; omega) u, h.b4.setOther (p := ⟨w0.heap.size + 1 + 1, i, none⟩) (by show w0.heap.size + 1 + 1 + 1 + 1 ≠ w0.heap.size + 1 + 1; omega) u, h.below.setCell (p := ⟨w0.heap.size + 1 + 1, i, none⟩) (by show w0.heap.size ≤ w0.heap.size + 1 + 1; omega) u⟩
theorem its_cast {w : World} {v v' : Value} {l l' : List It} (h : Its w v l) (e : v' = v) (el : l' = l) : Its w v' l' := by subst e; subst el; exact h
theorem drp_full {l : List It} {k : ByteArray} (h : (drp l k).length = l.length) : drp l k = l := by
  unfold drp at h ⊢
  exact List.filter_eq_self.2 (List.length_filter_eq_length_iff.1 h)
/-- Six boxes. -/
structure W6 (w0 : World) (c0 c1 c2 c3 c4 c5 : List Value) (W : World) : Prop where
  w5 : W5 w0 c0 c1 c2 c3 c4 W
  b5 : Blk W (w0.heap.size + 1 + 1 + 1 + 1 + 1) 35 c5
theorem W6.step {w0 W W' : World} {c0 c1 c2 c3 c4 c5 : List Value} (h : W6 w0 c0 c1 c2 c3 c4 c5 W) (hb : Below W.heap.size W W') : W6 w0 c0 c1 c2 c3 c4 c5 W' := ⟨h.w5.step hb, h.b5.below hb⟩
theorem W6.begin (w : World) (c0 c1 c2 c3 c4 c5 : Array Value) : W6 w c0.toList c1.toList c2.toList c3.toList c4.toList c5.toList ((((((w.alloc (.cells c0 25)).alloc (.cells c1 28)).alloc (.cells c2 33)).alloc (.cells c3 25)).alloc (.cells c4 35)).alloc (.cells c5 35)) := by
  have h := W5.begin w c0 c1 c2 c3 c4
  have hz : (((((w.alloc (.cells c0 25)).alloc (.cells c1 28)).alloc (.cells c2 33)).alloc (.cells c3 25)).alloc (.cells c4 35)).heap.size = w.heap.size + 1 + 1 + 1 + 1 + 1 := by simp
  generalize (((((w.alloc (.cells c0 25)).alloc (.cells c1 28)).alloc (.cells c2 33)).alloc (.cells c3 25)).alloc (.cells c4 35)) = W at *
  have hb := Blk.new W c5 35
  rw [hz] at hb
  exact ⟨h.step (abelow W _), hb⟩
theorem W6.st5 {w0 W : World} {c0 c1 c2 c3 c4 pre cs post vs : List Value} {i : Nat} (h : W6 w0 c0 c1 c2 c3 c4 (pre ++ (cs ++ post)) W) (hp : pre.length = i) (hl : vs.length = cs.length) : W6 w0 c0 c1 c2 c3 c4 (pre ++ (vs ++ post)) (stc W (w0.heap.size + 1 + 1 + 1 + 1 + 1) vs i) :=
  ⟨⟨stc_other (by omega) vs i W h.w5.b0, stc_other (by omega) vs i W h.w5.b1, stc_other (by omega) vs i W h.w5.b2, stc_other (by omega) vs i W h.w5.b3, stc_other (by omega) vs i W h.w5.b4, stc_below (by omega) vs i W h.w5.below⟩, stc_mid vs i W pre cs post h.b5 hp hl⟩
theorem W6.st3 {w0 W : World} {c0 c1 c2 c3 c4 c5 vs : List Value} (h : W6 w0 c0 c1 c2 c3 c4 c5 W) (hl : vs.length = c3.length) : W6 w0 c0 c1 c2 vs c4 c5 (stc W (w0.heap.size + 1 + 1 + 1) vs 0) := ⟨h.w5.st3 hl, stc_other (by omega) vs 0 W h.b5⟩
theorem W6.cell2 {w0 W : World} {c0 c1 c2 c3 c4 c5 : List Value} (h : W6 w0 c0 c1 c2 c3 c4 c5 W) (i : Nat) (u : Value) : W6 w0 c0 c1 (c2.set i u) c3 c4 c5 (W.setCell ⟨w0.heap.size + 1 + 1, i, none⟩ u) :=
  ⟨⟨h.w5.b0.setOther (p := ⟨w0.heap.size + 1 + 1, i, none⟩) (by show w0.heap.size ≠ w0.heap.size + 1 + 1; omega) u, h.w5.b1.setOther (p := ⟨w0.heap.size + 1 + 1, i, none⟩) (by show w0.heap.size + 1 ≠ w0.heap.size + 1 + 1; omega) u, h.w5.b2.set i u, h.w5.b3.setOther (p := ⟨w0.heap.size + 1 + 1, i, none⟩) (by show w0.heap.size + 1 + 1 + 1 ≠ w0.heap.size + 1 + 1; omega) u, h.w5.b4.setOther (p := ⟨w0.heap.size + 1 + 1, i, none⟩) (by show w0.heap.size + 1 + 1 + 1 + 1 ≠ w0.heap.size + 1 + 1; omega) u, h.w5.below.setCell (p := ⟨w0.heap.size + 1 + 1, i, none⟩) (by show w0.heap.size ≤ w0.heap.size + 1 + 1; omega) u⟩, h.b5.setOther (p := ⟨w0.heap.size + 1 + 1, i, none⟩) (by show w0.heap.size + 1 + 1 + 1 + 1 + 1 ≠ w0.heap.size + 1 + 1; omega) u⟩
theorem W6.cell5 {w0 W : World} {c0 c1 c2 c3 c4 c5 : List Value} (h : W6 w0 c0 c1 c2 c3 c4 c5 W) (i : Nat) (u : Value) : W6 w0 c0 c1 c2 c3 c4 (c5.set i u) (W.setCell ⟨w0.heap.size + 1 + 1 + 1 + 1 + 1, i, none⟩ u) :=
  ⟨⟨h.w5.b0.setOther (p := ⟨w0.heap.size + 1 + 1 + 1 + 1 + 1, i, none⟩) (by show w0.heap.size ≠ w0.heap.size + 1 + 1 + 1 + 1 + 1; omega) u, h.w5.b1.setOther (p := ⟨w0.heap.size + 1 + 1 + 1 + 1 + 1, i, none⟩) (by show w0.heap.size + 1 ≠ w0.heap.size + 1 + 1 + 1 + 1 + 1; omega) u, h.w5.b2.setOther (p := ⟨w0.heap.size + 1 + 1 + 1 + 1 + 1, i, none⟩) (by show w0.heap.size + 1 + 1 ≠ w0.heap.size + 1 + 1 + 1 + 1 + 1; omega) u, h.w5.b3.setOther (p := ⟨w0.heap.size + 1 + 1 + 1 + 1 + 1, i, none⟩) (by show w0.heap.size + 1 + 1 + 1 ≠ w0.heap.size + 1 + 1 + 1 + 1 + 1; omega) u, h.w5.b4.setOther (p := ⟨w0.heap.size + 1 + 1 + 1 + 1 + 1, i, none⟩) (by show w0.heap.size + 1 + 1 + 1 + 1 ≠ w0.heap.size + 1 + 1 + 1 + 1 + 1; omega) u, h.w5.below.setCell (p := ⟨w0.heap.size + 1 + 1 + 1 + 1 + 1, i, none⟩) (by show w0.heap.size ≤ w0.heap.size + 1 + 1 + 1 + 1 + 1; omega) u⟩, h.b5.set i u⟩
/-- Five boxes and one of an item behind them. -/
structure W7 (w0 : World) (D : Nat) (c0 c1 c2 c3 c4 c5 : List Value) (W : World) : Prop where
  w5 : W5 w0 c0 c1 c2 c3 c4 W
  b5 : Blk W D 33 c5
  lt : w0.heap.size + 1 + 1 + 1 + 1 < D
section
variable {w0 W W' : World} {D : Nat} {c0 c1 c2 c3 c4 c5 vs : List Value}
theorem W7.step (h : W7 w0 D c0 c1 c2 c3 c4 c5 W) (hb : Below W.heap.size W W') : W7 w0 D c0 c1 c2 c3 c4 c5 W' := ⟨h.w5.step hb, h.b5.below hb, h.lt⟩
theorem W7.begin (h : W5 w0 c0 c1 c2 c3 c4 W) (c5 : Array Value) : W7 w0 W.heap.size c0 c1 c2 c3 c4 c5.toList (W.alloc (.cells c5 33)) := ⟨h.step (abelow W _), Blk.new W c5 33, h.b4.lt⟩
theorem W7.st3 (h : W7 w0 D c0 c1 c2 c3 c4 c5 W) (hl : vs.length = c3.length) : W7 w0 D c0 c1 c2 vs c4 c5 (stc W (w0.heap.size + 1 + 1 + 1) vs 0) := ⟨h.w5.st3 hl, stc_other (by have := h.lt; omega) vs 0 W h.b5, h.lt⟩
theorem W7.st5 (h : W7 w0 D c0 c1 c2 c3 c4 c5 W) (hl : vs.length = c5.length) : W7 w0 D c0 c1 c2 c3 c4 vs (stc W D vs 0) :=
  have q := h.lt
  ⟨⟨stc_other (by omega) vs 0 W h.w5.b0, stc_other (by omega) vs 0 W h.w5.b1, stc_other (by omega) vs 0 W h.w5.b2, stc_other (by omega) vs 0 W h.w5.b3, stc_other (by omega) vs 0 W h.w5.b4, stc_below (by omega) vs 0 W h.w5.below⟩, stc_all h.b5 hl, h.lt⟩
theorem W7.cell0 (h : W7 w0 D c0 c1 c2 c3 c4 c5 W) (i : Nat) (u : Value) : W7 w0 D (c0.set i u) c1 c2 c3 c4 c5 (W.setCell ⟨w0.heap.size, i, none⟩ u) := ⟨h.w5.cell0 i u, h.b5.setOther (p := ⟨w0.heap.size, i, none⟩) (by have := h.lt; show D ≠ w0.heap.size; omega) u, h.lt⟩
theorem W7.cell5 (h : W7 w0 D c0 c1 c2 c3 c4 c5 W) (i : Nat) (u : Value) : W7 w0 D c0 c1 c2 c3 c4 (c5.set i u) (W.setCell ⟨D, i, none⟩ u) :=
  have q := h.lt
  ⟨⟨h.w5.b0.setOther (p := ⟨D, i, none⟩) (by show w0.heap.size ≠ D; omega) u, h.w5.b1.setOther (p := ⟨D, i, none⟩) (by show w0.heap.size + 1 ≠ D; omega) u, h.w5.b2.setOther (p := ⟨D, i, none⟩) (by show w0.heap.size + 1 + 1 ≠ D; omega) u, h.w5.b3.setOther (p := ⟨D, i, none⟩) (by show w0.heap.size + 1 + 1 + 1 ≠ D; omega) u, h.w5.b4.setOther (p := ⟨D, i, none⟩) (by show w0.heap.size + 1 + 1 + 1 + 1 ≠ D; omega) u, h.w5.below.setCell (p := ⟨D, i, none⟩) (by show w0.heap.size ≤ D; omega) u⟩, h.b5.set i u, h.lt⟩
end
theorem sv_set {w : World} {V : Value} {s : Ms} {B : Nat} (h : Sv w V s) (hn : New B V) {p : Addr} (hp : p.block < B) (u : Value) : Sv (w.setCell p u) V s := by
  obtain ⟨v, rfl, a, c, rfl, hc, hnil, hx⟩ := h
  refine ⟨_, rfl, a, c, rfl, hc, hnil, fun i x hi => ?_⟩
  obtain ⟨b, o, rfl, hy⟩ := hx i x hi
  refine ⟨b, o, rfl, fun j v hj => (World.cell?_setCell_other _ _ _ _ (fun e => ?_)).trans (hy j v hj)⟩
  have h1 := hn ⟨b, o, none⟩ _ _ _ _ rfl
  rw [e] at hp
  exact absurd hp (Nat.not_lt.2 h1)
theorem sv_stc {V : Value} {s : Ms} {B b : Nat} (hn : New B V) (hb : b < B) : ∀ (vs : List Value) (i : Nat) (w : World), Sv w V s → Sv (stc w b vs i) V s
  | [], _, _, h => h
  | v :: vs, i, _, h => sv_stc hn hb vs (i + 1) _ (sv_set h hn (p := ⟨b, i, none⟩) hb v)
theorem wrap_bump (n : Nat) : IntKind.u64.wrap ((n : Int) + 1) = ((bump n : Nat) : Int) := by
  unfold bump
  rw [show IntKind.u64.wrap ((n : Int) + 1) = ((n : Int) + 1) % 18446744073709551616 from rfl]
  omega
/-- A region whose operations but the last ones only read: the walk in the text's order. -/
theorem region_tail {P : Program} {id : Nat} {Q : Exit → Act → World → Prop} {a : Act} {w : World} {l : List Oper} (n : Nat) (hm : P.follows .mixedOrders = true) (hB : Region.lexTailB .any l.toArray n = true)
    (h : wpStill P l.toArray w.drew (fun a' => wpList P l.toArray Q (l.drop n) a' w.drew) (l.take n) a) : (Code.region id l.toArray true).wp P Q a w := wp_region_still_tail n hm hB h
theorem below_d (w : World) : Below w.heap.size w w.drew := (Below.refl _ _).drew
end Go.Proofs.YtpgljahomeebhaaDoor.Md
