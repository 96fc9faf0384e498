/-
  Package slab at this program: lay, of any slab. No conditions but that the page is open and none of its chunks stands in the row.
-/
import Derived.Test.YtldfpacdlephcaaM4
import Derived.BigQuiet
import Derived.Deep.RegionHeld3
namespace Go.Proofs.Ytldfpacdlephcaa
open Go Go.Shelf Go.RowKit Go.Lib

attribute [local go_sem] Oper.semAt_some

def Sl.laid (s : Sl) (p : Nat) (k : Ct) : Sl := s.setRow k.cls (s.rows k.cls ++ layRow p k.used (s.per k.cls))
/-- What may turn while a page is laid. -/
def LayTurn (d : Di) (c B b : Nat) : Prop := b = d.R ∨ (d.rv c).ownBlock = some b ∨ B ≤ b

theorem MIs.drewN {d : Di} {s : Sl} {w : World} (h : MIs d s w) (n : Nat) : MIs d s (w.drewN n) := h.below ⟨rfl, rfl, rfl, Nat.le_refl _, fun _ _ => rfl⟩
theorem MIs.sizes {d : Di} {s : Sl} {w : World} (h : MIs d s w) : Sz.Ints w (.slice (some ⟨d.Z, 0, none⟩) (Sz.ints s.sz).length d.cZ) (Sz.ints s.sz) := by
  refine ⟨some ⟨d.Z, 0, none⟩, d.cZ, rfl, fun j z hj => ⟨d.Z, 0, rfl, h.lt (foot_Z d s), ?_⟩⟩
  unfold Sz.ints at hj
  rw [List.getElem?_map] at hj
  obtain ⟨x, hx, rfl⟩ := Option.map_eq_some_iff.1 hj
  rw [Nat.zero_add]; exact h.hz hx
theorem per_call {d : Di} {s : Sl} {w : World} (h : MIs d s w) (ok : s.Ok) {c : Nat} (hc : c < s.sz.length) :
    Calls Try.prog 76 #[.slice (some ⟨d.Z, 0, none⟩) s.sz.length d.cZ, .int .i64 c, .int .i64 (s.a.size : Int)] w fun e w' => e = .returned (.int .i64 (s.per c : Int)) ∧ w = w' := by
  have hs := ok.ao.s2
  have hp := Sz.per_any (some ⟨d.Z, 0, none⟩) d.cZ (Sz.ints s.sz) (c : Int) (s.a.size : Int) (by omega) w h.sizes
  rw [ok.per_is hc, Sz.ints_len] at hp
  exact hp

/-- The slab, while its page is laid: so many places are over. -/
def Layed (d : Di) (s : Sl) (p : Nat) (k : Ct) (w : World) (pre : List (Nat × Bool)) (W : World) : Prop :=
  ∃ v, Stp d s w { d with rv := upd d.rv k.cls v } (s.setRow k.cls (s.rows k.cls ++ layOf p pre)) W ∧ (∀ b, v.ownBlock = some b → (d.rv k.cls).ownBlock = some b ∨ w.heap.size ≤ b)
theorem Layed.start {d : Di} {s : Sl} {w : World} (h : MIs d s w) (p : Nat) (k : Ct) : Layed d s p k w [] w := by
  have e1 : upd d.rv k.cls (d.rv k.cls) = d.rv := funext fun i => by unfold upd; split <;> simp [*]
  have e2 : upd s.rows k.cls (s.rows k.cls) = s.rows := funext fun i => by unfold upd; split <;> simp [*]
  refine ⟨d.rv k.cls, ?_, fun b hb => .inl hb⟩
  have e3 : s.setRow k.cls (s.rows k.cls ++ layOf p []) = s := by
    show s.setRow k.cls (s.rows k.cls ++ []) = s
    rw [List.append_nil]; unfold Sl.setRow; rw [e2]
  rw [e3, e1]
  exact Stp.refl h
theorem Layed.turn {d : Di} {s : Sl} {w W W' : World} {p : Nat} {k : Ct} {pre : List (Nat × Bool)} {row : Option Nat} (h : Layed d s p k w pre W) (hg : W.grownBy W' row) (hr : ∀ r, row = some r → w.heap.size ≤ r ∧ ∃ o : Obj, W.heap[r]? = some o ∧ o.isCells = false) : Layed d s p k w pre W' := by
  obtain ⟨v, hS, hv⟩ := h
  refine ⟨v, hS.more (D := fun b => row = some b) ⟨hg.os, hg.tape, hg.output, hg.size, fun i hi hne => hg.block i hi (fun e => hne e.symm)⟩ (fun b hb => ⟨(hr b hb).1, fun hf => ?_⟩), hv⟩
  obtain ⟨_, o, ho, hc⟩ := hr b hb
  obtain ⟨t, cs, hB⟩ := hS.m.blk hf
  have hB' : W.heap[b]? = some (.cells cs.toArray t (0, 0)) := hB
  rw [hB'] at ho
  cases ho
  cases hc
theorem Layed.skip {d : Di} {s : Sl} {w W : World} {p i : Nat} {k : Ct} {pre : List (Nat × Bool)} (h : Layed d s p k w pre W) : Layed d s p k w (pre ++ [(i, true)]) W := by
  unfold Layed; rw [layOf_skip]; exact h
theorem upd_upd {α : Type} (f : Nat → α) (k : Nat) (v v' : α) : upd (upd f k v) k v' = upd f k v' := funext fun i => by unfold upd; split <;> simp [*]
theorem layOf_len (p : Nat) (l : List (Nat × Bool)) : (layOf p l).length ≤ l.length := by unfold layOf; rw [List.length_map]; exact List.length_filter_le _ _

/-- What a round reads. -/
def LayS (P B q c p : Nat) (w : World) : Prop :=
  w.cell? ⟨B, 0, none⟩ = some (.pointer (some ⟨P, 0, none⟩)) ∧ w.cell? ⟨B + 1, 0, none⟩ = some (.int .i64 (p : Int)) ∧ w.cell? ⟨B + 2, 0, none⟩ = some (.pointer (some ⟨q, 0, none⟩)) ∧ w.cell? ⟨q, 0, none⟩ = some (.int .i64 (c : Int))

/-- A round of it that pushes. -/
theorem Layed.push {d : Di} {s : Sl} {w W : World} {p i : Nat} {k : Ct} {pre : List (Nat × Bool)} (h : Layed d s p k w pre W) (hc : k.cls < s.sz.length) (hl : (s.rows k.cls).length ≤ 4194304) (hpl : pre.length ≤ 1024) (hw : w.heap.size ≤ W.heap.size) :
    Calls Try.prog 47 #[.pointer (some ⟨d.P, 0, none⟩), .int .i64 k.cls, .int .i64 ((4096 * p + i : Nat) : Int)] W fun e W' => (∃ v, e = .returned v) ∧ Layed d s p k w (pre ++ [(i, false)]) W' ∧ Only (LayTurn d k.cls w.heap.size) W W' ∧ KeepsFrom w.heap.size W W' := by
  obtain ⟨v, hS, hv⟩ := h
  have hlen := layOf_len p pre
  have hrow : (s.setRow k.cls (s.rows k.cls ++ layOf p pre)).rows k.cls = s.rows k.cls ++ layOf p pre := upd_same _ _ _
  have hpu := push_any hS.m (c := k.cls) hc (by rw [hrow, List.length_append]; omega) (4096 * p + i)
  refine hpu.mono ?_
  rintro e W' ⟨he, v', hS', ho, hb'⟩
  have e1 : (s.setRow k.cls (s.rows k.cls ++ layOf p pre)).push k.cls (4096 * p + i) = s.setRow k.cls (s.rows k.cls ++ layOf p (pre ++ [(i, false)])) := by
    unfold Sl.push
    rw [hrow, layOf_more, ← List.append_assoc]
    unfold Sl.setRow
    dsimp only
    rw [upd_upd]
  have hS2 : Stp { d with rv := upd d.rv k.cls v } (s.setRow k.cls (s.rows k.cls ++ layOf p pre)) W { d with rv := upd d.rv k.cls v' } (s.setRow k.cls (s.rows k.cls ++ layOf p (pre ++ [(i, false)]))) W' := by
    rw [e1] at hS'
    have := hS'
    dsimp only at this
    rw [upd_upd] at this
    exact this
  have ho2 : Only (LayTurn d k.cls w.heap.size) W W' := ho.mono (fun b hb => by
    rcases hb with e | e
    · exact .inl e
    · have e' : (upd d.rv k.cls v k.cls).ownBlock = some b := e
      rw [upd_same] at e'
      exact .inr (hv b e'))
  refine ⟨he, ⟨v', hS.trans hS2, fun b hb => ?_⟩, ho2, ⟨ho.size, fun j o hj hoj hoc => ?_⟩⟩
  · rcases hb' b hb with e | e
    · have e' : (upd d.rv k.cls v k.cls).ownBlock = some b := e
      rw [upd_same] at e'
      exact hv b e'
    · exact .inr (Nat.le_trans hw e)
  · have hlt := (Array.getElem?_eq_some_iff.1 hoj).1
    rw [ho.block j hlt (fun hD => ?_)]
    · exact hoj
    · have hf : SFoot { d with rv := upd d.rv k.cls v } (s.setRow k.cls (s.rows k.cls ++ layOf p pre)) j := by
        rcases hD with e | e
        · rw [e]; exact foot_R _ _
        · exact foot_row (c := k.cls) hc e
      obtain ⟨t, cs, hB⟩ := hS.m.blk hf
      have hB' : W.heap[j]? = some (.cells cs.toArray t (0, 0)) := hB
      rw [hB'] at hoj
      cases hoj
      cases hoc
set_option maxRecDepth 100000 in
set_option maxHeartbeats 4000000 in
theorem lay_any {d : Di} {s : Sl} {w : World} (h : MIs d s w) (ok : s.Ok) {p : Nat} {k : Ct} (hk : s.cut p = some k) (hcl : k.closed = false) (hno : ∀ x ∈ s.rows k.cls, x / 4096 ≠ p) :
    Calls Try.prog 58 #[.pointer (some ⟨d.P, 0, none⟩), .int .i64 p] w fun e w' => (∃ v, e = .returned v) ∧ ∃ d', Stp d s w d' (s.laid p k) w' := by
  have c3 := h.h3
  have hp := ok.cut_1024 hk
  have f4 := (h.hc hp).1
  rw [cutV_some hk] at f4
  have q1 : (p : Int) < 1024 := by omega
  have q0 : (0 : Int) ≤ (p : Int) := by omega
  have lP := h.lt (foot_P d s)
  have lC := h.lt (foot_C d s)
  refine (callsIn_wide (n := 5)).1 ?_
  refine callsIn_of_wp_marks Try.func58 rfl trivial ?_ rfl
  simp only [Try.ntmps58, List.size_toArray, List.length_cons, List.length_nil, Nat.reduceAdd, Nat.reduceSub, Array.replicate_succ, Array.replicate_zero, List.push_toArray, List.append_toArray, List.nil_append, List.cons_append]
  gi_wp2
  obtain ⟨W0, hW0⟩ : ∃ W0, W0 = (w.alloc (.cells #[.pointer (some ⟨d.P, 0, none⟩)] 32)).alloc (.cells #[.int .i64 p] 3) := ⟨_, rfl⟩
  have b0 : W0.cell? ⟨w.heap.size, 0, none⟩ = some (.pointer (some ⟨d.P, 0, none⟩)) := by rw [hW0]; exact cell_alloc ((Blk.new w #[.pointer (some ⟨d.P, 0, none⟩)] 32).cell rfl) _
  have b1 : W0.cell? ⟨w.heap.size + 1, 0, none⟩ = some (.int .i64 p) := by
    have := (Blk.new (w.alloc (.cells #[.pointer (some ⟨d.P, 0, none⟩)] 32)) #[.int .i64 p] 3).cell (i := 0) rfl
    rw [World.size_alloc] at this
    rw [hW0]; exact this
  have a3 : W0.cell? ⟨d.P, 3, none⟩ = some (.slice (some ⟨d.C, 0, none⟩) 1024 1024) := by rw [hW0]; exact cell_alloc (cell_alloc c3 _) _
  have a4 : W0.cell? ⟨d.C, p, none⟩ = some (.pointer (some ⟨d.cb p, 0, none⟩)) := by rw [hW0]; exact cell_alloc (cell_alloc f4 _) _
  have sz0 : W0.heap.size = w.heap.size + 2 := by rw [hW0]; simp
  have bw0 : Below w.heap.size w W0 := by rw [hW0]; exact ((Below.refl _ w).alloc (Nat.le_refl _) _).alloc (by simp) _
  rw [← hW0]
  have H := hid (h.below bw0)
  clear hW0
  have n0 := World.new_ne W0 _ b0
  have n1 := World.new_ne W0 _ b1
  have n3 := World.new_ne W0 _ a3
  have n4 := World.new_ne W0 _ a4
  refine wpIn_wide.2 ?_
  go_region_held3 (fun w' => w'.cell? ⟨w.heap.size, 0, none⟩ = some (.pointer (some ⟨d.P, 0, none⟩)) ∧ w'.cell? ⟨w.heap.size + 1, 0, none⟩ = some (.int .i64 p) ∧ w'.cell? ⟨d.P, 3, none⟩ = some (.slice (some ⟨d.C, 0, none⟩) 1024 1024) ∧ w'.cell? ⟨d.C, p, none⟩ = some (.pointer (some ⟨d.cb p, 0, none⟩))) (go_keep) (fail)
  obtain ⟨W1, hW1⟩ : ∃ W1, W1 = (W0.alloc (.cells #[.pointer (some ⟨d.cb p, 0, none⟩)] 78)).drew := ⟨_, rfl⟩
  have bw1 : Below W0.heap.size W0 W1 := by rw [hW1]; exact (((Below.refl _ W0).alloc (Nat.le_refl _) _)).drew
  have b2 : W1.cell? ⟨w.heap.size + 2, 0, none⟩ = some (.pointer (some ⟨d.cb p, 0, none⟩)) := by
    have := (Blk.new W0 #[.pointer (some ⟨d.cb p, 0, none⟩)] 78).drew.cell (i := 0) rfl
    rw [sz0] at this
    rw [hW1]; exact this
  have sz1 : W1.heap.size = w.heap.size + 3 := by rw [hW1]; show (W0.alloc _).heap.size = _; rw [World.size_alloc, sz0]
  have c0 := (bw1.cell (p := ⟨w.heap.size, 0, none⟩) (by show w.heap.size < W0.heap.size; omega)).trans b0
  have c1 := (bw1.cell (p := ⟨w.heap.size + 1, 0, none⟩) (by show w.heap.size + 1 < W0.heap.size; omega)).trans b1
  rw [← hW1]
  have h1 := H.out.below bw1
  have H1 := hid h1
  have bw := bw0.trans (bw1.mono bw0.size)
  obtain ⟨hct, hcls, hul, hupr⟩ := ok.ct p k hk
  obtain ⟨hp1, hp2⟩ := ok.per_le hcls
  have hUl := ok.U_le
  have d0 := h1.h0
  have d1 := h1.h1
  have d2 := h1.k0 hk
  have d3 := h1.k1 hk
  have cP := fun n => (page_size (h1.drewN n).ar).mono (R' := fun e w' => e = .returned (.int .i64 (s.a.size : Int)) ∧ ∃ m, w' = W1.drewN m) (fun e w' he => ⟨he.1, n, he.2.symm⟩)
  have cR := fun n => (per_call (h1.drewN n) ok hcls).mono (R' := fun e w' => e = .returned (.int .i64 (s.per k.cls : Int)) ∧ ∃ m, w' = W1.drewN m) (fun e w' he => ⟨he.1, n, he.2.symm⟩)
  have r0 : (0 : Int) ≤ (s.per k.cls : Int) := by omega
  have r1 : (s.per k.cls : Int) ≤ (s.U : Int) := by omega
  have r2 : decide ((s.per k.cls : Int) < 0) = false := by simp
  have r3 : decide ((s.U : Int) < (s.per k.cls : Int)) = false := by simpa using hp2
  have r4 : decide (s.U < s.per k.cls) = false := by simpa using hp2
  clear hW1 h1 b0 b1 a3 a4 n0 n1 n3 n4 bw0 bw1 c3 f4 lP lC
  have HX := hid (And.intro h (And.intro ok (And.intro hk (And.intro hcl hno))))
  clear h ok hk hcl hno hct hupr
  gi_wp2
  refine wpIn_wide.2 ?_
  go_quiet (first | exact cP _ | exact cR _)
  obtain ⟨W2, hW2⟩ : ∃ W2, W2 = W1.drewN nq := ⟨_, rfl⟩
  have bw2 : Below W1.heap.size W1 W2 := by rw [hW2]; exact ⟨rfl, rfl, rfl, Nat.le_refl _, fun _ _ => rfl⟩
  have sz2 : W2.heap.size = w.heap.size + 3 := by rw [hW2]; exact sz1
  rw [← hW2]
  have e0 := (bw2.cell (p := ⟨w.heap.size, 0, none⟩) (by show w.heap.size < W1.heap.size; omega)).trans c0
  have e1 := (bw2.cell (p := ⟨w.heap.size + 1, 0, none⟩) (by show w.heap.size + 1 < W1.heap.size; omega)).trans c1
  have e2 := (bw2.cell (p := ⟨w.heap.size + 2, 0, none⟩) (by show w.heap.size + 2 < W1.heap.size; omega)).trans b2
  have bx := bw.trans (bw2.mono bw.size)
  have H2 := hid (H1.out.below bw2)
  clear hW2 bw bw2 c0 c1 b2 H1 H cP cR d0 d1 d2 d3 sz0 sz1
  gi_wp2_with (refine ⟨trivial, ?_⟩; gi_at_call 77; refine (back_in _ _ _ _ _).mono ?_; rintro e w' ⟨rfl, rfl⟩)
  obtain ⟨W3, hW3⟩ : ∃ W3, W3 = W2.alloc (.cells #[.slice (some ⟨d.ub p, 0, none⟩) (s.per k.cls) s.U] 56) := ⟨_, rfl⟩
  have bw3 : Below W2.heap.size W2 W3 := by rw [hW3]; exact (Below.refl _ W2).alloc (Nat.le_refl _) _
  have sz3 : W3.heap.size = w.heap.size + 4 := by rw [hW3, World.size_alloc, sz2]
  have g0 := (bw3.cell (p := ⟨w.heap.size, 0, none⟩) (by show w.heap.size < W2.heap.size; omega)).trans e0
  have g1 := (bw3.cell (p := ⟨w.heap.size + 1, 0, none⟩) (by show w.heap.size + 1 < W2.heap.size; omega)).trans e1
  have g2 := (bw3.cell (p := ⟨w.heap.size + 2, 0, none⟩) (by show w.heap.size + 2 < W2.heap.size; omega)).trans e2
  have g3 : W3.cell? ⟨w.heap.size + 3, 0, none⟩ = some (.slice (some ⟨d.ub p, 0, none⟩) (s.per k.cls) s.U) := by
    have := (Blk.new W2 #[.slice (some ⟨d.ub p, 0, none⟩) (s.per k.cls) s.U] 56).cell (i := 0) rfl
    rw [sz2] at this
    rw [hW3]; exact this
  have by3 := bx.trans (bw3.mono bx.size)
  obtain ⟨h, ok, hk, hcl, hno⟩ := HX.out
  have h3 := H2.out.below bw3
  have nD : ∀ b, w.heap.size ≤ b → b < W3.heap.size → ¬ LayTurn d k.cls W3.heap.size b := fun b h1 h2 hD => by
    rcases hD with e | e | e
    · have := h.lt (foot_R d s); omega
    · have := h.lt (foot_row hcls e); omega
    · omega
  have nV : ¬ LayTurn d k.cls W3.heap.size (d.ub p) := fun hD => by
    have hB := (h3.cut p k hk).2
    rcases hD with e | e | e
    · exact hB.ne h3.rws (by decide) e
    · obtain ⟨cs, hB'⟩ := own_blk (h3.row k.cls hcls) e
      exact hB.ne hB' (by decide) rfl
    · have := hB.lt; omega
  rw [← hW3]
  have hrl := ok.row_len hcls
  refine wpIn_rangeFunc_ownG rfl (by omega) (gf := 85) (lb := #[.pointer (some ⟨w.heap.size + 3, 0, none⟩)]) rfl trivial (enters_of Try.func85 (by kernel_rfl) rfl)
    (back_stops _ (w.heap.size + 3) (d.ub p) (s.per k.cls) s.U hp1 (by omega) k.used (by omega) (LayTurn d k.cls W3.heap.size) (nD _ (by omega) (by omega)) nV W3 (by omega) (h3.lt (foot_ub hk)) g3 (fun j b hj => h3.ku hk hj))
    (fun a b => a.trans b (fun _ hx => .inl hx)) (fun W l o o' hl _ _ _ => ⟨rfl, rfl, rfl, by simp, fun i _ hne => World.putObj_heap_other (fun e => hne (by rw [e]; exact .inr (.inr hl)))⟩) (Below.refl _ _) (fun _ => rfl)
    (fun pre W => Layed d s p k W3 (pls pre) W ∧ Only (LayTurn d k.cls W3.heap.size) W3 W)
    (fun _ _ _ => False)
    (fun pre W W' row hs hg hr => ⟨hs.1.turn hg hr, hs.2.trans (E := fun b => row = some b) ⟨hg.os, hg.tape, hg.output, hg.size, fun i hi hne => hg.block i hi (fun e => hne e.symm)⟩ (fun x hx => .inr (hr x hx).1)⟩)
    (fun _ _ _ _ _ hs _ _ => hs)
    ⟨Layed.start h3 p k, Only.refl _ _⟩
    (fun x => { tmps := #[.pointer (some ⟨d.P, 0, none⟩), .int .i64 p, .pointer (some ⟨w.heap.size, 0, none⟩), .pointer (some ⟨w.heap.size + 1, 0, none⟩), .pointer (some ⟨w.heap.size + 2, 0, none⟩), .slice (some ⟨d.ub p, 0, none⟩) (s.per k.cls) s.U, .int .i64 (x.1.1 : Int), .bool x.1.2,
      .pointer (some ⟨d.P, 0, none⟩), .pointer (some ⟨d.P, 0, none⟩), .pointer (some ⟨d.P, 3, none⟩), .slice (some ⟨d.C, 0, none⟩) 1024 1024, .int .i64 p, .pointer (some ⟨d.C, p, none⟩), .pointer (some ⟨d.cb p, 0, none⟩), .pointer (some ⟨d.cb p, 0, none⟩), .pointer (some ⟨d.cb p, 0, none⟩), .pointer (some ⟨d.cb p, 1, none⟩), .slice (some ⟨d.ub p, 0, none⟩) s.U s.U,
      .pointer (some ⟨d.P, 0, none⟩), .pointer (some ⟨d.P, 0, none⟩), .pointer (some ⟨d.P, 1, none⟩), .slice (some ⟨d.Z, 0, none⟩) s.sz.length d.cZ, .pointer (some ⟨d.cb p, 0, none⟩), .pointer (some ⟨d.cb p, 0, none⟩), .pointer (some ⟨d.cb p, 0, none⟩), .int .i64 k.cls, .pointer (some ⟨d.P, 0, none⟩), .pointer (some ⟨d.P, 0, none⟩), .pointer (some ⟨d.P, 0, none⟩), .pointer (some ⟨d.A, 0, none⟩), .int .i64 (s.a.size : Int), .int .i64 (s.per k.cls : Int),
      .slice (some ⟨d.ub p, 0, none⟩) (s.per k.cls) s.U, .slice (some ⟨d.ub p, 0, none⟩) (s.per k.cls) s.U, .func (.func 85) #[] #[.pointer (some ⟨w.heap.size + 3, 0, none⟩)], .int .i64 (x.1.1 : Int), .bool x.1.2, undef, undef, undef, undef, undef, undef, undef, undef, undef, undef, undef], defers := [] }) ?assign ?body ?done ?stop
  case assign =>
    intro l x W K hK
    gi_wp2
    exact hK
  case body =>
    rintro l pre ⟨⟨i, b⟩, hi⟩ W ⟨hL, hO⟩ hlt
    have f0 := (hO.cell (p := ⟨w.heap.size, 0, none⟩) (by show w.heap.size < W3.heap.size; omega) (nD _ (by show w.heap.size ≤ w.heap.size; omega) (by show w.heap.size < W3.heap.size; omega))).trans g0
    have f1 := (hO.cell (p := ⟨w.heap.size + 1, 0, none⟩) (by show w.heap.size + 1 < W3.heap.size; omega) (nD _ (by show w.heap.size ≤ w.heap.size + 1; omega) (by show w.heap.size + 1 < W3.heap.size; omega))).trans g1
    have f2 := (hO.cell (p := ⟨w.heap.size + 2, 0, none⟩) (by show w.heap.size + 2 < W3.heap.size; omega) (nD _ (by show w.heap.size ≤ w.heap.size + 2; omega) (by show w.heap.size + 2 < W3.heap.size; omega))).trans g2
    have f3 : W.cell? ⟨d.cb p, 0, none⟩ = some (.int .i64 (k.cls : Int)) := by
      obtain ⟨v, hS, _⟩ := hL
      exact hS.m.k0 hk
    cases b with
    | true =>
      have HL := hid hL
      clear hL g0 g1 g2 g3 e0 e1 e2
      gi_wp2
      exact ⟨KeepsFrom.refl _ _, Only.refl _ _, by rw [pls_app]; exact HL.out.skip, hO⟩
    | false =>
      have hpu := Layed.push (W := W.drew) (i := i) (hL.turn (row := none) ⟨rfl, rfl, rfl, Nat.le_refl _, fun _ _ _ => rfl⟩ (fun r e => by cases e)) hcls hrl (by rw [pls_len]; omega) hO.size
      have hnu := fun w => number_any p i hp hi w
      clear hL g0 g1 g2 g3 e0 e1 e2
      have hS : LayS d.P w.heap.size (d.cb p) k.cls p W.drew := ⟨f0, f1, f2, f3⟩
      gi_wp2
      refine wpIn_region_round (LayS d.P w.heap.size (d.cb p) k.cls p) (by kernel_rfl) (fun ⟨_, _, h⟩ => h) (by kernel_rfl) ?_
      refine wpAnyH_take (i := 0) (v := .pointer (some ⟨d.P, 0, none⟩)) rfl (by kernel_rfl) (by kernel_rfl) (by kernel_rfl) (fun _ _ _ h => h) (Or.inl ⟨by rfl, ?_⟩) hS ?_
      · intro w' hw'
        obtain ⟨s0, s1, s2, s3⟩ := hw'
        go_simp
      refine wpAnyH_take (i := 1) (v := .pointer (some ⟨d.cb p, 0, none⟩)) rfl (by kernel_rfl) (by kernel_rfl) (by kernel_rfl) (fun _ _ _ h => h) (Or.inl ⟨by rfl, ?_⟩) hS ?_
      · intro w' hw'
        obtain ⟨s0, s1, s2, s3⟩ := hw'
        go_simp
      refine wpAnyH_take (i := 2) (v := .pointer (some ⟨d.cb p, 0, none⟩)) rfl (by kernel_rfl) (by kernel_rfl) (by kernel_rfl) (fun _ _ _ h => h) (Or.inl ⟨by rfl, ?_⟩) hS ?_
      · intro w' hw'
        obtain ⟨s0, s1, s2, s3⟩ := hw'
        go_simp
      refine wpAnyH_take (i := 3) (v := .pointer (some ⟨d.cb p, 0, none⟩)) rfl (by kernel_rfl) (by kernel_rfl) (by kernel_rfl) (fun _ _ _ h => h) (Or.inl ⟨by rfl, ?_⟩) hS ?_
      · intro w' hw'
        obtain ⟨s0, s1, s2, s3⟩ := hw'
        go_simp
      refine wpAnyH_take (i := 4) (v := .int .i64 (k.cls : Int)) rfl (by kernel_rfl) (by kernel_rfl) (by kernel_rfl) (fun _ _ _ h => h) (Or.inl ⟨by rfl, ?_⟩) hS ?_
      · intro w' hw'
        obtain ⟨s0, s1, s2, s3⟩ := hw'
        go_simp
      refine wpAnyH_take (i := 5) (v := .int .i64 (p : Int)) rfl (by kernel_rfl) (by kernel_rfl) (by kernel_rfl) (fun _ _ _ h => h) (Or.inl ⟨by rfl, ?_⟩) hS ?_
      · intro w' hw'
        obtain ⟨s0, s1, s2, s3⟩ := hw'
        go_simp
      refine wpAnyH_take (i := 6) (v := .int .i64 (i : Int)) rfl (by kernel_rfl) (by kernel_rfl) (by kernel_rfl) (fun _ _ _ h => h) (Or.inl ⟨by rfl, ?_⟩) hS ?_
      · intro w' hw'
        obtain ⟨s0, s1, s2, s3⟩ := hw'
        go_simp
      refine wpAnyH_ready (rs := [7]) (by kernel_rfl) (by simp) ?_
      refine AllReadyH.cons rfl (fun K hK => ?_) AllReadyH.nil
      go_simp
      refine (hnu _).mono ?_
      rintro e w1 ⟨rfl, rfl⟩
      refine hK.out _ _ hS (fun _ => ?_)
      clear hK K
      refine wpAnyH_ready (rs := [8]) (by kernel_rfl) (by simp) ?_
      refine AllReadyH.cons rfl (fun K hK => ?_) AllReadyH.nil
      go_simp
      refine hpu.mono ?_
      rintro e W' ⟨⟨u, rfl⟩, hL', hO', hK'⟩
      have hOO : Only (LayTurn d k.cls W3.heap.size) W W' := (((Only.refl (LayTurn d k.cls W3.heap.size) W).drew)).trans hO' (fun _ h => .inl h)
      have hO2 := hO.trans hOO (fun _ h => .inl h)
      refine hK.out _ _ ?_ (fun _ => ?_)
      · obtain ⟨v, hS', _⟩ := hL'
        have m0 := (hOO.cell (p := ⟨w.heap.size, 0, none⟩) (Nat.lt_of_lt_of_le (show w.heap.size < W3.heap.size by omega) hO.size) (nD _ (by show w.heap.size ≤ w.heap.size; omega) (by show w.heap.size < W3.heap.size; omega))).trans f0
        have m1 := (hOO.cell (p := ⟨w.heap.size + 1, 0, none⟩) (Nat.lt_of_lt_of_le (show w.heap.size + 1 < W3.heap.size by omega) hO.size) (nD _ (by show w.heap.size ≤ w.heap.size + 1; omega) (by show w.heap.size + 1 < W3.heap.size; omega))).trans f1
        have m2 := (hOO.cell (p := ⟨w.heap.size + 2, 0, none⟩) (Nat.lt_of_lt_of_le (show w.heap.size + 2 < W3.heap.size by omega) hO.size) (nD _ (by show w.heap.size ≤ w.heap.size + 2; omega) (by show w.heap.size + 2 < W3.heap.size; omega))).trans f2
        exact ⟨m0, m1, m2, hS'.m.k0 hk⟩
      · refine wpAnyH_done (by kernel_rfl) ?_ _
        exact ⟨((KeepsOthers.drew W).from _).trans hK', hOO, by rw [pls_app]; exact hL', hO2⟩
  case done =>
    rintro D ys W hD hys ⟨hL, hO⟩ hDD
    have HL := hid hL
    clear hL
    gi_wp2
    refine ⟨by simp, .inl ⟨_, _, rfl, run_takeDeferred hDD, ?_⟩⟩
    refine ⟨_, results_none rfl _ _ _, ⟨_, rfl⟩, ?_⟩
    have hT := HL.out.turn (grownBy_putObj' W D (.deferred none)) (fun r e => by cases e; exact ⟨hD, _, hDD, rfl⟩)
    obtain ⟨v, hS, _⟩ := hT
    rw [hys] at hS
    exact ⟨_, Stp.after by3 hS⟩
  case stop =>
    rintro D c pre W _ _ h _
    exact h.elim
end Go.Proofs.Ytldfpacdlephcaa
