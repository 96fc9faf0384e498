/-
  The contracts of what keeps an item: insert, keep, keepAnew. Conditions: the items stand in order, and are not over many.
-/
import Derived.Test.YtpgljahomeebhaaDoorMpWork
import Derived.Lib.QuietBelow
namespace Go.Proofs.YtpgljahomeebhaaDoor.Md
open Go Go.RowKit Go.Lib

/-- A region whose operations but the last ones only read: the walk in the text's order. -/
theorem region_tl {P : Program} {id : Nat} {Q : Exit → Act → World → Prop} {a : Act} {w : World} {l : List Oper} (n : Nat) (hm : P.follows .mixedOrders = true) (hB : Region.lexTailB .any l.toArray n = true)
    (h : wpStill P l.toArray w.drew (fun a' => wpList P l.toArray Q (l.drop n) a' w.drew) (l.take n) a) : (Code.region id l.toArray true).wp P Q a w := wp_region_still_tail n hm hB h
def insL (l : List It) (x : It) : List It := l.take (pos l x.key) ++ x :: l.drop (pos l x.key)
def xcs (x : It) : Array Value := #[.string x.key, .int .u32 x.flags, .string x.val, .int .i64 x.exp, .int .u64 x.cas, .int .i64 x.last, .bool x.stale, .bool x.won]
section
variable {B : Nat} {F : Nat → Prop} {s : Wk} {w : World}
/-- A new row is laid into what is worked on. -/
theorem wp_row {G' : Nat → Prop} {v v' : Value} {l' : List It} {w4 : World} (hB : Blk w4 B 60 (s.cells v)) (hR : Rw G' w4 v' l') (hGB : ¬ G' B) (hFl : ∀ b, F b → b < w4.heap.size) (hFB : F B) (hG : ∀ b, G' b → F b ∨ w.heap.size ≤ b) (hGl : ∀ b, G' b → b < w4.heap.size) (ho : Only F w w4) :
    ∃ F', WP B F' { s with l := l' } (w4.setCell ⟨B, 0, none⟩ v') ∧ Stp F F' w (w4.setCell ⟨B, 0, none⟩ v') := by
  have ho2 : Only (fun b => b = B) w4 (w4.setCell ⟨B, 0, none⟩ v') := Only.setCell (D := fun b => b = B) (Only.refl _ _) (p := ⟨B, 0, none⟩) (.inl rfl) _
  have hz : (w4.setCell ⟨B, 0, none⟩ v').heap.size = w4.heap.size := by simp [World.setCell]
  refine ⟨fun b => F b ∨ G' b, ⟨v', G', hB.set 0 v', hR.only ho2 (fun b hb e => hGB (by rw [← e]; exact hb)), .inl hFB, hGB, fun b hb => ⟨.inr hb, by rw [hz]; exact hGl b hb⟩, fun b hb => by rw [hz]; exact hb.elim (hFl b) (hGl b)⟩, ⟨ho.trans ho2 (fun b hb => .inl (by rw [hb]; exact hFB)), fun b hb => hb.elim .inl (hG b)⟩⟩
set_option maxHeartbeats 1000000 in
set_option maxRecDepth 100000 in
theorem wk_insert (h : WP B F s w) (hs : Sorted s.l) (hlen : s.l.length ≤ 4194304) (x : It) :
    Calls Tryd.prog 72 #[.pointer (some ⟨B, 0, none⟩), x.v] w fun e w' => e = .returned (.tuple #[]) ∧ ∃ F', WP B F' { s with l := insL s.l x } w' ∧ Stp F F' w w' := by
  obtain ⟨v, G, hB, hR, hFB, hGB, hGF, hFl⟩ := h
  obtain ⟨a, c, rfl⟩ := hR.form
  obtain ⟨kx, fx, vx, ex, cx, lx, sx, ox⟩ := x
  show Calls Tryd.prog 72 #[.pointer (some ⟨B, 0, none⟩), .agg #[.string kx, .int .u32 fx, .string vx, .int .i64 ex, .int .u64 cx, .int .i64 lx, .bool sx, .bool ox]] w fun e w' => e = .returned (.tuple #[]) ∧ ∃ F', WP B F' { s with l := insL s.l ⟨kx, fx, vx, ex, cx, lx, sx, ox⟩ } w' ∧ Stp F F' w w'
  obtain ⟨W0, hW0⟩ : ∃ W0, w.alloc (.cells #[.string kx, .int .u32 fx, .string vx, .int .i64 ex, .int .u64 cx, .int .i64 lx, .bool sx, .bool ox] 33) = W0 := ⟨_, rfl⟩
  have hb0 : Below w.heap.size w W0 := by rw [← hW0]; exact abelow _ _
  have hX : Blk W0 w.heap.size 33 [.string kx, .int .u32 fx, .string vx, .int .i64 ex, .int .u64 cx, .int .i64 lx, .bool sx, .bool ox] := by rw [← hW0]; exact Blk.new w #[.string kx, .int .u32 fx, .string vx, .int .i64 ex, .int .u64 cx, .int .i64 lx, .bool sx, .bool ox] _
  have hB0 := hB.below hb0
  have hR0 := hR.below hb0
  have hsr := fun W (hW : Below W0.heap.size W0 W) => search_any (hR0.below hW).its hs hlen kx
  have c0 := hB0.cell (i := 0) rfl
  have k0 := hX.cell (i := 0) rfl
  generalize isAt s.l kx = fnd at *
  obtain ⟨P, hP⟩ : ∃ P, P = pos s.l kx := ⟨_, rfl⟩
  have hPn : P ≤ s.l.length := by rw [hP]; exact pos_le _ _
  rw [← hP] at hsr
  -- behind the search
  have HI : Hid (∀ w2, Below W0.heap.size W0 w2 → (w2.drew.cell? ⟨B, 0, none⟩ = some (.slice a s.l.length c) ∧ Blk w2.drew w.heap.size 33 [.string kx, .int .u32 fx, .string vx, .int .i64 ex, .int .u64 cx, .int .i64 lx, .bool sx, .bool ox]) ∧
      ∀ w3, w3 = w2.drew.alloc (.cells #[.string kx, .int .u32 fx, .string vx, .int .i64 ex, .int .u64 cx, .int .i64 lx, .bool sx, .bool ox] 33) →
      Calls Tryd.prog 78 #[.slice a s.l.length c, .int .i64 P, .slice (some ⟨w2.heap.size, 0, none⟩) 1 1] w3 fun e w4 => ∃ a' n' c', e = .returned (.slice a' n' c') ∧ Hid (((w4.cell? ⟨B, 0, none⟩ = some (.slice a s.l.length c) ∧ w4.frozen? ⟨B, 0, none⟩ = false) ∧ Blk w4 w.heap.size 33 [.string kx, .int .u32 fx, .string vx, .int .i64 ex, .int .u64 cx, .int .i64 lx, .bool sx, .bool ox]) ∧ ∃ F', WP B F' { s with l := insL s.l ⟨kx, fx, vx, ex, cx, lx, sx, ox⟩ } (w4.setCell ⟨B, 0, none⟩ (.slice a' n' c')) ∧ Stp F F' w (w4.setCell ⟨B, 0, none⟩ (.slice a' n' c')))) := hid (fun w2 h2 => by
    have b2 : Below w.heap.size w w2.drew := (hb0.trans (h2.mono hb0.size)).drew
    refine ⟨⟨(hB.below b2).cell (i := 0) rfl, (hX.below h2).drew⟩, ?_⟩
    rintro w3 rfl
    have b3 : Below w.heap.size w (w2.drew.alloc (.cells #[.string kx, .int .u32 fx, .string vx, .int .i64 ex, .int .u64 cx, .int .i64 lx, .bool sx, .bool ox] 33)) := Below.then b2 (abelow _ _)
    have hz : w.heap.size ≤ w2.heap.size := b2.size
    refine (insert_any (hR.below b3) hlen P hPn ⟨kx, fx, vx, ex, cx, lx, sx, ox⟩ w2.heap.size (Blk.new w2.drew #[.string kx, .int .u32 fx, .string vx, .int .i64 ex, .int .u64 cx, .int .i64 lx, .bool sx, .bool ox] 33) (fun e => by have := (hGF _ e).2; omega)).mono ?_
    rintro e w4 ⟨v', rfl, hR4, hO4⟩
    have hB4 := (hB.below b3).only hO4 hGB
    have hz3 := b3.size
    obtain ⟨a', c', rfl⟩ := hR4.form
    refine ⟨_, _, _, rfl, hid ⟨⟨⟨hB4.cell (i := 0) rfl, hB4.frozen 0⟩, (((hX.below h2).drew).below (abelow _ _)).only hO4 (fun e => by have := (hGF _ e).2; omega)⟩, ?_⟩⟩
    have e1 : insL s.l ⟨kx, fx, vx, ex, cx, lx, sx, ox⟩ = s.l.take P ++ ⟨kx, fx, vx, ex, cx, lx, sx, ox⟩ :: s.l.drop P := by unfold insL; rw [hP]
    rw [e1]
    refine wp_row hB4 hR4 (fun e => e.elim hGB (fun q => by have := hFl B hFB; omega)) (fun b hb => Nat.lt_of_lt_of_le (hFl b hb) (Nat.le_trans hz3 hO4.size)) hFB (fun b hb => hb.elim (fun q => .inl (hGF b q).1) (fun q => .inr (by omega))) (fun b hb => hb.elim (fun q => Nat.lt_of_lt_of_le (hGF b q).2 (Nat.le_trans hz3 hO4.size)) (fun q => q.2)) ?_
    exact (Below.only (D := F) b3).trans hO4 (fun b hb => .inl (hGF b hb).1))
  clear hB hR hB0 hR0 hX hFB hGB hGF hFl hPn hs
  have HP := hid hP
  clear hP hb0
  generalize s.l.length = N at *
  have cS : ∀ d os, Calls Tryd.prog 75 #[.slice a N c, .string kx, .func (.func 76) #[] #[]] (Sort.grow (redrawn W0 d) os) fun e w'' => e = .returned (.tuple #[.int .i64 P, .bool fnd]) ∧ ∃ p : Regrown, w'' = Sort.grow (redrawn W0 p.d) p.os := fun d os => Calls.regrown_of (hsr _ (below_regrown W0 d os))
  have cc0 := fun d os => cell_regrown c0 d os
  have kk0 := fun d os => cell_regrown k0 d os
  clear c0 k0 hsr
  go_enter Tryd.func72, Tryd.ntmps72
  go_wp2_with fail
  refine wp_region_quiet_below (by kernel_rfl) (by kernel_rfl) ?_
  iterate 7 (quiet_step (fail))
  quiet_step (exact cS _ _)
  iterate 5 (quiet_step (fail))
  refine wpQuiet_nil ?_
  intro _ hw'
  obtain ⟨⟨dq, osq⟩, hw''⟩ := hw'
  subst hw''
  have b2 := below_regrown W0 dq osq
  generalize Sort.grow (redrawn W0 dq) osq = w2 at *
  obtain ⟨⟨d0, dX⟩, hins⟩ := HI.out w2 b2
  obtain ⟨S, hSd⟩ : ∃ S : World → Prop, S = fun W => W.cell? ⟨B, 0, none⟩ = some (.slice a N c) ∧ W.cell? ⟨w.heap.size, 0, none⟩ = some (.string kx) ∧ W.cell? ⟨w.heap.size, 1, none⟩ = some (.int .u32 fx) ∧ W.cell? ⟨w.heap.size, 2, none⟩ = some (.string vx) ∧ W.cell? ⟨w.heap.size, 3, none⟩ = some (.int .i64 ex) ∧ W.cell? ⟨w.heap.size, 4, none⟩ = some (.int .u64 cx) ∧ W.cell? ⟨w.heap.size, 5, none⟩ = some (.int .i64 lx) ∧ W.cell? ⟨w.heap.size, 6, none⟩ = some (.bool sx) ∧ W.cell? ⟨w.heap.size, 7, none⟩ = some (.bool ox) := ⟨_, rfl⟩
  have hS : S w2.drew := by
    rw [hSd]
    exact ⟨d0, dX.cell (i := 0) rfl, dX.cell (i := 1) rfl, dX.cell (i := 2) rfl, dX.cell (i := 3) rfl, dX.cell (i := 4) rfl, dX.cell (i := 5) rfl, dX.cell (i := 6) rfl, dX.cell (i := 7) rfl⟩
  have hSb := fun (o : Obj) => (show S (w2.drew.alloc o) by
    have q := dX.below (abelow w2.drew o)
    rw [hSd]
    exact ⟨cell_alloc d0 o, q.cell (i := 0) rfl, q.cell (i := 1) rfl, q.cell (i := 2) rfl, q.cell (i := 3) rfl, q.cell (i := 4) rfl, q.cell (i := 5) rfl, q.cell (i := 6) rfl, q.cell (i := 7) rfl⟩)
  have hins2 := hins _ rfl
  clear HI cS cc0 kk0 dX hins d0
  go_wp2_with fail
  refine wp_region_E S 13 (by kernel_rfl) ?_
  --GEN insert
  refine wpAnyE_take (i := 0) (v := .pointer (some ⟨B, 0, none⟩)) rfl (by kernel_rfl) (by kernel_rfl) (by kernel_rfl) (fun _ _ _ h => h) (by kernel_rfl) (by kernel_rfl) hS (Or.inl ⟨by rfl, ?_⟩) ?_
  · intro w' hw'
    rw [hSd] at hw'; obtain ⟨d0, x0, x1, x2, x3, x4, x5, x6, x7⟩ := hw'
    go_simp
  refine wpAnyE_take (i := 1) (v := .pointer (some ⟨B, 0, none⟩)) rfl (by kernel_rfl) (by kernel_rfl) (by kernel_rfl) (fun _ _ _ h => h) (by kernel_rfl) (by kernel_rfl) hS (Or.inl ⟨by rfl, ?_⟩) ?_
  · intro w' hw'
    rw [hSd] at hw'; obtain ⟨d0, x0, x1, x2, x3, x4, x5, x6, x7⟩ := hw'
    go_simp
  refine wpAnyE_take (i := 2) (v := .pointer (some ⟨B, 0, none⟩)) rfl (by kernel_rfl) (by kernel_rfl) (by kernel_rfl) (fun _ _ _ h => h) (by kernel_rfl) (by kernel_rfl) hS (Or.inl ⟨by rfl, ?_⟩) ?_
  · intro w' hw'
    rw [hSd] at hw'; obtain ⟨d0, x0, x1, x2, x3, x4, x5, x6, x7⟩ := hw'
    go_simp
  refine wpAnyE_take (i := 3) (v := .pointer (some ⟨B, 0, none⟩)) rfl (by kernel_rfl) (by kernel_rfl) (by kernel_rfl) (fun _ _ _ h => h) (by kernel_rfl) (by kernel_rfl) hS (Or.inl ⟨by rfl, ?_⟩) ?_
  · intro w' hw'
    rw [hSd] at hw'; obtain ⟨d0, x0, x1, x2, x3, x4, x5, x6, x7⟩ := hw'
    go_simp
  refine wpAnyE_take (i := 4) (v := .pointer (some ⟨B, 0, none⟩)) rfl (by kernel_rfl) (by kernel_rfl) (by kernel_rfl) (fun _ _ _ h => h) (by kernel_rfl) (by kernel_rfl) hS (Or.inl ⟨by rfl, ?_⟩) ?_
  · intro w' hw'
    rw [hSd] at hw'; obtain ⟨d0, x0, x1, x2, x3, x4, x5, x6, x7⟩ := hw'
    go_simp
  refine wpAnyE_take (i := 5) (v := .slice a N c) rfl (by kernel_rfl) (by kernel_rfl) (by kernel_rfl) (fun _ _ _ h => h) (by kernel_rfl) (by kernel_rfl) hS (Or.inl ⟨by rfl, ?_⟩) ?_
  · intro w' hw'
    rw [hSd] at hw'; obtain ⟨d0, x0, x1, x2, x3, x4, x5, x6, x7⟩ := hw'
    go_simp
  refine wpAnyE_take (i := 6) (v := .int .i64 (P : Int)) rfl (by kernel_rfl) (by kernel_rfl) (by kernel_rfl) (fun _ _ _ h => h) (by kernel_rfl) (by kernel_rfl) hS (Or.inl ⟨by rfl, ?_⟩) ?_
  · intro w' hw'
    rw [hSd] at hw'; obtain ⟨d0, x0, x1, x2, x3, x4, x5, x6, x7⟩ := hw'
    go_simp
  refine wpAnyE_take (i := 7) (v := .agg #[.string kx, .int .u32 fx, .string vx, .int .i64 ex, .int .u64 cx, .int .i64 lx, .bool sx, .bool ox]) rfl (by kernel_rfl) (by kernel_rfl) (by kernel_rfl) (fun _ _ _ h => h) (by kernel_rfl) (by kernel_rfl) hS (Or.inl ⟨by rfl, ?_⟩) ?_
  · intro w' hw'
    rw [hSd] at hw'; obtain ⟨d0, x0, x1, x2, x3, x4, x5, x6, x7⟩ := hw'
    go_simp
  --END
  refine wpAnyE_one (i := 8) rfl (by kernel_rfl) (fun K hK => ?_)
  go_simp
  refine hK _ _ (fun _ => hSb _) ?_
  clear hK K
  refine wpAnyE_one (i := 9) rfl (by kernel_rfl) (fun K hK => ?_)
  go_simp
  refine hins2.mono ?_
  rintro e w4 ⟨a', n', c', rfl, HW⟩
  obtain ⟨⟨⟨e0, f0⟩, eX⟩, -⟩ := HW.out
  have hS4 : S w4 := by
    rw [hSd]
    exact ⟨e0, eX.cell (i := 0) rfl, eX.cell (i := 1) rfl, eX.cell (i := 2) rfl, eX.cell (i := 3) rfl, eX.cell (i := 4) rfl, eX.cell (i := 5) rfl, eX.cell (i := 6) rfl, eX.cell (i := 7) rfl⟩
  refine hK _ _ (fun _ => hS4) ?_
  clear hK K hSb hins2 hS eX
  refine wpAnyE_one (i := 10) rfl (by kernel_rfl) (fun K hK => ?_)
  go_simp
  refine hK _ _ (fun _ => hS4) ?_
  clear hK K
  refine wpAnyE_one (i := 11) rfl (by kernel_rfl) (fun K hK => ?_)
  go_simp
  refine hK _ _ (fun _ => hS4) ?_
  clear hK K
  refine wpAnyE_one (i := 12) rfl (by kernel_rfl) (fun K hK => ?_)
  go_simp
  refine hK _ _ (fun _ => hS4) ?_
  clear hK K
  refine wpAnyE_one (i := 13) rfl (by kernel_rfl) (fun K hK => ?_)
  go_simp
  refine hK _ _ (fun h => (by cases (show true = false from h))) (wpAnyE_done (by kernel_rfl) ?_ _)
  clear hK K hS4 e0 f0
  go_wp2_with fail
  go_end0
  exact ⟨rfl, HW.out.2⟩
end
def xc (x : It) : List Value := [.string x.key, .int .u32 x.flags, .string x.val, .int .i64 x.exp, .int .u64 x.cas, .int .i64 x.last, .bool x.stale, .bool x.won]
/-- An answer's cells, with nothing in them. -/
def zA : List Value := [.int .i64 0, .string emp, .int .u32 0, .string emp, .int .i64 0, .int .u64 0, .int .i64 0, .bool false, .bool false, .int .u64 0, .bool false, .bool false, .bool false]
theorem res_ans {fn : Func} {R : Nat} (h : fn.results = #[.cell R 35]) {tmps : Array Value} {w : World} {D : Nat} {a : An} (hd : Blk w D 35 a.cells) (h3 : tmps[R]?.getD undef = .pointer (some ⟨D, 0, none⟩)) :
    (results fn tmps).run Tryd.prog w = .ok a.v w := by
  have r0 := hd.cell (i := 0) rfl
  have r1 := hd.cell (i := 1) rfl
  have r2 := hd.cell (i := 2) rfl
  have r3 := hd.cell (i := 3) rfl
  have r4 := hd.cell (i := 4) rfl
  have r5 := hd.cell (i := 5) rfl
  have r6 := hd.cell (i := 6) rfl
  have r7 := hd.cell (i := 7) rfl
  have r8 := hd.cell (i := 8) rfl
  have r9 := hd.cell (i := 9) rfl
  have r10 := hd.cell (i := 10) rfl
  have r11 := hd.cell (i := 11) rfl
  have r12 := hd.cell (i := 12) rfl
  simp [results, h, h3, go_sem, r0, r1, r2, r3, r4, r5, r6, r7, r8, r9, r10, r11, r12, An.v, An.cells]
theorem an_lit (st : Int) (x : It) : (An.is st x).v = .agg #[.int .i64 st, .string x.key, .int .u32 x.flags, .string x.val, .int .i64 x.exp, .int .u64 x.cas, .int .i64 x.last, .bool x.stale, .bool x.won, .int .u64 0, .bool false, .bool false, .bool false] := rfl
theorem an_of (st : Int) : (An.of st).v = .agg #[.int .i64 st, .string emp, .int .u32 0, .string emp, .int .i64 0, .int .u64 0, .int .i64 0, .bool false, .bool false, .int .u64 0, .bool false, .bool false, .bool false] := rfl
theorem an_all (a : An) : a.v = .agg #[.int .i64 a.st, .string a.it.key, .int .u32 a.it.flags, .string a.it.val, .int .i64 a.it.exp, .int .u64 a.it.cas, .int .i64 a.it.last, .bool a.it.stale, .bool a.it.won, .int .u64 a.n, .bool a.w, .bool a.x, .bool a.z] := rfl
/-- Two boxes: an item's and an answer's. -/
structure K2 (w0 : World) (F : Nat → Prop) (cx ca : List Value) (W : World) : Prop where
  bx : Blk W w0.heap.size 33 cx
  ba : Blk W (w0.heap.size + 1) 35 ca
  nx : ¬ F w0.heap.size
  na : ¬ F (w0.heap.size + 1)
section
variable {w0 W W' : World} {F F' : Nat → Prop} {cx ca vs : List Value} {B : Nat} {s : Wk}
theorem K2.begin {w0 : World} {F : Nat → Prop} (cx ca : Array Value) (hF : ∀ b, F b → b < w0.heap.size) : K2 w0 F cx.toList ca.toList ((w0.alloc (.cells cx 33)).alloc (.cells ca 35)) ∧ Below w0.heap.size w0 ((w0.alloc (.cells cx 33)).alloc (.cells ca 35)) := by
  have h0 := Blk.new w0 cx 33
  have q1 := abelow w0 (.cells cx 33)
  generalize hw1 : w0.alloc (.cells cx 33) = w1 at *
  have z1 : w1.heap.size = w0.heap.size + 1 := by rw [← hw1]; simp
  have h1 := Blk.new w1 ca 35
  have q2 := abelow w1 (.cells ca 35)
  rw [z1] at h1
  exact ⟨⟨h0.below q2, h1, fun e => by have := hF _ e; omega, fun e => by have := hF _ e; omega⟩, Below.then q1 q2⟩
theorem K2.stp (h : K2 w0 F cx ca W) (k : Stp F F' W W') : K2 w0 F' cx ca W' := ⟨(k.blk h.bx h.nx).1, (k.blk h.ba h.na).1, (k.blk h.bx h.nx).2, (k.blk h.ba h.na).2⟩
theorem K2.step (h : K2 w0 F cx ca W) (hb : Below W.heap.size W W') : K2 w0 F cx ca W' := ⟨h.bx.below hb, h.ba.below hb, h.nx, h.na⟩
theorem K2.sta (h : K2 w0 F cx ca W) (hl : vs.length = ca.length) : K2 w0 F cx vs (stc W (w0.heap.size + 1) vs 0) := ⟨stc_other (by omega) vs 0 W h.bx, stc_all h.ba hl, h.nx, h.na⟩
theorem stc_only {b : Nat} : ∀ (vs : List Value) (i : Nat) (W : World), Only (fun x => x = b) W (stc W b vs i)
  | [], _, _ => Only.refl _ _
  | v :: vs, i, _ => (Only.setCell (D := fun x => x = b) (Only.refl _ _) (p := ⟨b, i, none⟩) (.inl rfl) v).trans (stc_only vs (i + 1) _) (fun _ h => .inl h)
/-- A box of the call's own is laid anew: what is worked on stands; what the call leaves stays. -/
theorem wp_stc (h : WP B F s W) {b : Nat} (hb : ¬ F b) (vs : List Value) (i : Nat) : WP B F s (stc W b vs i) := h.only (stc_only vs i W) (fun x hx e => hb (by rw [← e]; exact hx))
theorem stp_stc (h : Stp F F' w0 W) {b : Nat} (hb : w0.heap.size ≤ b) (vs : List Value) (i : Nat) : Stp F F' w0 (stc W b vs i) :=
  ⟨h.only.trans (stc_only vs i W) (fun x hx => .inr (by rw [hx]; exact hb)), h.foot⟩
end
/-- One of the items is laid anew. -/
theorem wp_set {B : Nat} {F : Nat → Prop} {s : Wk} {w : World} (h : WP B F s w) {k : Nat} (hk : k < s.l.length) (x : It) : ∃ g c, (w.cell? ⟨B, 0, none⟩ = some (.slice (some ⟨g, 0, none⟩) s.l.length c) ∧ w.cell? ⟨B, 21, none⟩ = some (.int .i64 s.ix)) ∧ Pl g c w s.l ∧ F g ∧ g ≠ B ∧ WP B F { s with l := s.l.set k x } (w.setCells g (k * 8) (ics [x])) ∧ Stp F F w (w.setCells g (k * 8) (ics [x])) := by
  obtain ⟨v, G, hB, hR, hFB, hGB, hGF, hFl⟩ := h
  rcases hR.pl with ⟨rfl, e⟩ | ⟨g, c, rfl, hg, hP⟩
  · rw [e] at hk; simp at hk
  · have hne : g ≠ B := fun e => hGB (by rw [← e]; exact hg)
    have hle := hP.le
    have h2 := hP.lay k [x] (by omega) (by rw [List.length_singleton]; omega)
    have e1 : s.l.take k ++ [x] ++ s.l.drop (k + [x].length) = s.l.set k x := by rw [List.set_eq_take_append_cons_drop, if_pos hk, List.append_assoc]; rfl
    rw [e1] at h2
    have ho := only_setCells (b := g) (ics [x]) (k * 8) w
    have hz : w.heap.size ≤ (w.setCells g (k * 8) (ics [x])).heap.size := ho.size
    have h3 := h2.rw hg
    rw [List.length_set] at h3
    exact ⟨g, c, ⟨hB.cell (i := 0) rfl, hB.cell (i := 21) rfl⟩, hP, (hGF g hg).1, hne, ⟨_, G, hB.only ho (fun e => hne e.symm), h3, hFB, hGB, fun b hb => ⟨(hGF b hb).1, Nat.lt_of_lt_of_le (hGF b hb).2 hz⟩, fun b hb => Nat.lt_of_lt_of_le (hFl b hb) hz⟩, ⟨only_mono1 ho (hGF g hg).1, fun b hb => .inl hb⟩⟩
def Wk.kept (s : Wk) (x : It) : List It := if 0 ≤ s.ix then s.l.set s.ix.toNat x else insL s.l x
section
variable {B : Nat} {F : Nat → Prop} {s : Wk} {w : World}
set_option maxHeartbeats 1000000 in
set_option maxRecDepth 100000 in
theorem wk_keep (h : WP B F s w) (hs : Sorted s.l) (hlen : s.l.length ≤ 4194304) (hi : s.ix < s.l.length) (st : Int) (x : It) :
    Calls Tryd.prog 65 #[.pointer (some ⟨B, 0, none⟩), .int .i64 st, x.v] w fun e w' => e = .returned (An.is st x).v ∧ ∃ F', WP B F' { s with l := s.kept x } w' ∧ Stp F F' w w' := by
  obtain ⟨kx, fx, vx, ex, cx, lx, sx, ox⟩ := x
  show Calls Tryd.prog 65 #[.pointer (some ⟨B, 0, none⟩), .int .i64 st, .agg #[.string kx, .int .u32 fx, .string vx, .int .i64 ex, .int .u64 cx, .int .i64 lx, .bool sx, .bool ox]] w fun e w' => e = .returned (An.is st ⟨kx, fx, vx, ex, cx, lx, sx, ox⟩).v ∧ ∃ F', WP B F' { s with l := s.kept ⟨kx, fx, vx, ex, cx, lx, sx, ox⟩ } w' ∧ Stp F F' w w'
  have hK := K2.begin #[.string kx, .int .u32 fx, .string vx, .int .i64 ex, .int .u64 cx, .int .i64 lx, .bool sx, .bool ox] #[.int .i64 0, .string emp, .int .u32 0, .string emp, .int .i64 0, .int .u64 0, .int .i64 0, .bool false, .bool false, .int .u64 0, .bool false, .bool false, .bool false] h.lt
  have HK := hid hK
  have HH := hid h
  have HT := hid (wk_there (h.below hK.2).head)
  have HI := hid hi
  clear hK h hi
  go_enter Tryd.func65, Tryd.ntmps65
  go_wp2_with fail
  refine HT.out.mono ?_
  rintro e W1 ⟨rfl, hW1⟩
  have HK1 := HK.out
  rw [hW1] at HK1
  have HK := hid HK1
  clear HT HK1 hW1
  have HH1 := hid (HH.out.below HK.out.2)
  have HS1 : Hid (Stp F F w W1) := hid (Stp.of_below HK.out.2)
  cases ht : s.there
  · have hx := hid (show s.kept ⟨kx, fx, vx, ex, cx, lx, sx, ox⟩ = insL s.l ⟨kx, fx, vx, ex, cx, lx, sx, ox⟩ by unfold Wk.kept; rw [if_neg (of_decide_eq_false ht)])
    have x0 := HK.out.1.bx.cell (i := 0) rfl
    have x1 := HK.out.1.bx.cell (i := 1) rfl
    have x2 := HK.out.1.bx.cell (i := 2) rfl
    have x3 := HK.out.1.bx.cell (i := 3) rfl
    have x4 := HK.out.1.bx.cell (i := 4) rfl
    have x5 := HK.out.1.bx.cell (i := 5) rfl
    have x6 := HK.out.1.bx.cell (i := 6) rfl
    have x7 := HK.out.1.bx.cell (i := 7) rfl
    have hins := wk_insert HH1.out hs hlen ⟨kx, fx, vx, ex, cx, lx, sx, ox⟩
    clear hs ht
    go_wp2_with fail
    refine hins.mono ?_
    rintro e W2 ⟨rfl, F2, h2, k2⟩
    have HK2 := hid (HK.out.1.stp k2)
    rw [← hx.out] at h2
    have HH2 := hid h2
    have HS2 := hid (HS1.out.trans k2)
    clear h2 k2 hins x0 x1 x2 x3 x4 x5 x6 x7 HK HH1 HS1
    --GEN tail1
    have y0 := HK2.out.bx.cell (i := 0) rfl
    have y1 := HK2.out.bx.cell (i := 1) rfl
    have y2 := HK2.out.bx.cell (i := 2) rfl
    have y3 := HK2.out.bx.cell (i := 3) rfl
    have y4 := HK2.out.bx.cell (i := 4) rfl
    have y5 := HK2.out.bx.cell (i := 5) rfl
    have y6 := HK2.out.bx.cell (i := 6) rfl
    have y7 := HK2.out.bx.cell (i := 7) rfl
    have e0 := HK2.out.ba.cell (i := 0) rfl
    have f0 := HK2.out.ba.frozen 0
    have e1 := HK2.out.ba.cell (i := 1) rfl
    have f1 := HK2.out.ba.frozen 1
    have e2 := HK2.out.ba.cell (i := 2) rfl
    have f2 := HK2.out.ba.frozen 2
    have e3 := HK2.out.ba.cell (i := 3) rfl
    have f3 := HK2.out.ba.frozen 3
    have e4 := HK2.out.ba.cell (i := 4) rfl
    have f4 := HK2.out.ba.frozen 4
    have e5 := HK2.out.ba.cell (i := 5) rfl
    have f5 := HK2.out.ba.frozen 5
    have e6 := HK2.out.ba.cell (i := 6) rfl
    have f6 := HK2.out.ba.frozen 6
    have e7 := HK2.out.ba.cell (i := 7) rfl
    have f7 := HK2.out.ba.frozen 7
    have e8 := HK2.out.ba.cell (i := 8) rfl
    have f8 := HK2.out.ba.frozen 8
    have e9 := HK2.out.ba.cell (i := 9) rfl
    have f9 := HK2.out.ba.frozen 9
    have e10 := HK2.out.ba.cell (i := 10) rfl
    have f10 := HK2.out.ba.frozen 10
    have e11 := HK2.out.ba.cell (i := 11) rfl
    have f11 := HK2.out.ba.frozen 11
    have e12 := HK2.out.ba.cell (i := 12) rfl
    have f12 := HK2.out.ba.frozen 12
    go_wp2_with fail
    change bodyPost _ _ _ _ _ (stc W2 (w.heap.size + 1) (An.is st ⟨kx, fx, vx, ex, cx, lx, sx, ox⟩).cells 0)
    exact bodyPost_ret (res_ans (a := An.is st ⟨kx, fx, vx, ex, cx, lx, sx, ox⟩) rfl (stc_all HK2.out.ba rfl) rfl) rfl ⟨rfl, F2, wp_stc HH2.out HK2.out.na _ _, stp_stc HS2.out (by omega) _ _⟩
    --END
  · have hx := hid (show s.kept ⟨kx, fx, vx, ex, cx, lx, sx, ox⟩ = s.l.set s.ix.toNat ⟨kx, fx, vx, ex, cx, lx, sx, ox⟩ by unfold Wk.kept; rw [if_pos (of_decide_eq_true ht)])
    have hge : 0 ≤ s.ix := of_decide_eq_true ht
    obtain ⟨k, hk⟩ : ∃ k : Nat, s.ix = (k : Int) := ⟨s.ix.toNat, by omega⟩
    have hkn : s.ix.toNat = k := by omega
    have hkl : k < s.l.length := by have := HI.out; omega
    rw [hkn] at hx
    have hd1 : Below W1.heap.size W1 W1.drew := (Below.refl _ _).drew
    obtain ⟨g, c, ⟨c0, c1⟩, hP, hg, hne, hw2, hs2⟩ := wp_set (HH1.out.below hd1) hkl ⟨kx, fx, vx, ex, cx, lx, sx, ox⟩
    rw [hk] at c1
    obtain ⟨z, hz⟩ : ∃ z, s.l[k]? = some z := ⟨_, List.getElem?_eq_getElem hkl⟩
    --GEN rowfacts
    have z0 := hP.at hz (j := 0) rfl
    have f0 := hP.fro (k * 8)
    have z1 := hP.at hz (j := 1) rfl
    have f1 := hP.fro (k * 8 + 1)
    have z2 := hP.at hz (j := 2) rfl
    have f2 := hP.fro (k * 8 + 2)
    have z3 := hP.at hz (j := 3) rfl
    have f3 := hP.fro (k * 8 + 3)
    have z4 := hP.at hz (j := 4) rfl
    have f4 := hP.fro (k * 8 + 4)
    have z5 := hP.at hz (j := 5) rfl
    have f5 := hP.fro (k * 8 + 5)
    have z6 := hP.at hz (j := 6) rfl
    have f6 := hP.fro (k * 8 + 6)
    have z7 := hP.at hz (j := 7) rfl
    have f7 := hP.fro (k * 8 + 7)
    rw [Nat.add_zero] at z0
    --END
    have hgl := hP.lt
    have HK1 := HK.out.1.step hd1
    have x0 := HK1.bx.cell (i := 0) rfl
    have x1 := HK1.bx.cell (i := 1) rfl
    have x2 := HK1.bx.cell (i := 2) rfl
    have x3 := HK1.bx.cell (i := 3) rfl
    have x4 := HK1.bx.cell (i := 4) rfl
    have x5 := HK1.bx.cell (i := 5) rfl
    have x6 := HK1.bx.cell (i := 6) rfl
    have x7 := HK1.bx.cell (i := 7) rfl
    have HK2 := hid (HK1.stp hs2)
    rw [← hx.out] at hw2
    have HH2 := hid hw2
    have HS2 := hid (HS1.out.trans (Stp.ahead hd1 hs2))
    have q0 : (0 : Int) ≤ (k : Int) := by omega
    have q1 : (k : Int) < (s.l.length : Int) := by omega
    rw [set_lay] at HK2 HH2 HS2
    obtain ⟨N, hN⟩ : ∃ N, N = s.l.length := ⟨_, rfl⟩
    rw [← hN] at c0 q1
    clear hN hz hP HK1 hw2 hs2 HK HH1 HS1 hs ht hge hk hkn hkl hlen hd1
    go_wp2_with fail
    refine region_tl 11 (by kernel_rfl) (by kernel_rfl) ?_
    simp only [List.take_succ_cons, List.take_zero, List.drop_succ_cons, List.drop_zero]
    generalize W1.drew = Wd at *
    repeat still_step
    refine wpStill_nil ?_
    go_upto_region 4 with fail
    clear z0 z1 z2 z3 z4 z5 z6 z7 f0 f1 f2 f3 f4 f5 f6 f7 x0 x1 x2 x3 x4 x5 x6 x7 c0 c1 hgl
    generalize (((((((Wd.setCell ⟨g, k * 8, none⟩ (.string kx)).setCell ⟨g, k * 8 + 1, none⟩ (.int .u32 fx)).setCell ⟨g, k * 8 + 2, none⟩ (.string vx)).setCell ⟨g, k * 8 + 3, none⟩ (.int .i64 ex)).setCell ⟨g, k * 8 + 4, none⟩ (.int .u64 cx)).setCell ⟨g, k * 8 + 5, none⟩ (.int .i64 lx)).setCell ⟨g, k * 8 + 6, none⟩ (.bool sx)).setCell ⟨g, k * 8 + 7, none⟩ (.bool ox) = W2 at *
    --GEN tail2
    have y0 := HK2.out.bx.cell (i := 0) rfl
    have y1 := HK2.out.bx.cell (i := 1) rfl
    have y2 := HK2.out.bx.cell (i := 2) rfl
    have y3 := HK2.out.bx.cell (i := 3) rfl
    have y4 := HK2.out.bx.cell (i := 4) rfl
    have y5 := HK2.out.bx.cell (i := 5) rfl
    have y6 := HK2.out.bx.cell (i := 6) rfl
    have y7 := HK2.out.bx.cell (i := 7) rfl
    have e0 := HK2.out.ba.cell (i := 0) rfl
    have f0 := HK2.out.ba.frozen 0
    have e1 := HK2.out.ba.cell (i := 1) rfl
    have f1 := HK2.out.ba.frozen 1
    have e2 := HK2.out.ba.cell (i := 2) rfl
    have f2 := HK2.out.ba.frozen 2
    have e3 := HK2.out.ba.cell (i := 3) rfl
    have f3 := HK2.out.ba.frozen 3
    have e4 := HK2.out.ba.cell (i := 4) rfl
    have f4 := HK2.out.ba.frozen 4
    have e5 := HK2.out.ba.cell (i := 5) rfl
    have f5 := HK2.out.ba.frozen 5
    have e6 := HK2.out.ba.cell (i := 6) rfl
    have f6 := HK2.out.ba.frozen 6
    have e7 := HK2.out.ba.cell (i := 7) rfl
    have f7 := HK2.out.ba.frozen 7
    have e8 := HK2.out.ba.cell (i := 8) rfl
    have f8 := HK2.out.ba.frozen 8
    have e9 := HK2.out.ba.cell (i := 9) rfl
    have f9 := HK2.out.ba.frozen 9
    have e10 := HK2.out.ba.cell (i := 10) rfl
    have f10 := HK2.out.ba.frozen 10
    have e11 := HK2.out.ba.cell (i := 11) rfl
    have f11 := HK2.out.ba.frozen 11
    have e12 := HK2.out.ba.cell (i := 12) rfl
    have f12 := HK2.out.ba.frozen 12
    go_wp2_with fail
    change bodyPost _ _ _ _ _ (stc W2 (w.heap.size + 1) (An.is st ⟨kx, fx, vx, ex, cx, lx, sx, ox⟩).cells 0)
    exact bodyPost_ret (res_ans (a := An.is st ⟨kx, fx, vx, ex, cx, lx, sx, ox⟩) rfl (stc_all HK2.out.ba rfl) rfl) rfl ⟨rfl, F, wp_stc HH2.out HK2.out.na _ _, stp_stc HS2.out (by omega) _ _⟩
    --END
end
end Go.Proofs.YtpgljahomeebhaaDoor.Md
