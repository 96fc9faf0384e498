/-
  The contracts of touch, flushAll, get, remove. Conditions: the items stand in order, and are not over many; now is a moment.
-/
import Derived.Test.YtpgljahomeebhaaDoorMpAnew
namespace Go.Proofs.YtpgljahomeebhaaDoor.Md
open Go Go.RowKit Go.Lib

/-- Two boxes of the call's own: an answer's and an item's behind it. -/
structure Kb (n₀ A X : Nat) (F : Nat → Prop) (ca cx : List Value) (W : World) : Prop where
  ba : Blk W A 35 ca
  bx : Blk W X 33 cx
  na : ¬ F A
  nx : ¬ F X
  ga : n₀ ≤ A
  gx : A < X
section
variable {B n₀ A X : Nat} {F F' : Nat → Prop} {s : Wk} {w w0 W W' : World} {ca cx vs : List Value}
theorem Kb.stp (h : Kb n₀ A X F ca cx W) (k : Stp F F' W W') : Kb n₀ A X F' ca cx W' := ⟨(k.blk h.ba h.na).1, (k.blk h.bx h.nx).1, (k.blk h.ba h.na).2, (k.blk h.bx h.nx).2, h.ga, h.gx⟩
theorem Kb.step (h : Kb n₀ A X F ca cx W) (hb : Below W.heap.size W W') : Kb n₀ A X F ca cx W' := ⟨h.ba.below hb, h.bx.below hb, h.na, h.nx, h.ga, h.gx⟩
theorem Kb.setx (h : Kb n₀ A X F ca cx W) (i : Nat) (u : Value) : Kb n₀ A X F ca (cx.set i u) (W.setCell ⟨X, i, none⟩ u) := ⟨h.ba.setOther (p := ⟨X, i, none⟩) (by have := h.gx; show A ≠ X; omega) u, h.bx.set i u, h.na, h.nx, h.ga, h.gx⟩
theorem Kb.oth (h : Kb n₀ A X F ca cx W) {b : Nat} (h1 : X < b) (i : Nat) (u : Value) : Kb n₀ A X F ca cx (W.setCell ⟨b, i, none⟩ u) := ⟨h.ba.setOther (p := ⟨b, i, none⟩) (by have := h.gx; show A ≠ b; omega) u, h.bx.setOther (p := ⟨b, i, none⟩) (by show X ≠ b; omega) u, h.na, h.nx, h.ga, h.gx⟩
/-- One box of the call's own: an answer's. -/
structure Ka (n₀ A : Nat) (F : Nat → Prop) (ca : List Value) (W : World) : Prop where
  ba : Blk W A 35 ca
  na : ¬ F A
  ga : n₀ ≤ A
theorem Ka.stp (h : Ka n₀ A F ca W) (k : Stp F F' W W') : Ka n₀ A F' ca W' := ⟨(k.blk h.ba h.na).1, (k.blk h.ba h.na).2, h.ga⟩
theorem Ka.step (h : Ka n₀ A F ca W) (hb : Below W.heap.size W W') : Ka n₀ A F ca W' := ⟨h.ba.below hb, h.na, h.ga⟩
theorem Ka.begin (hF : ∀ b, F b → b < w.heap.size) (ca : Array Value) : Ka w.heap.size w.heap.size F ca.toList (w.alloc (.cells ca 35)) := ⟨Blk.new w ca _, fun e => by have := hF _ e; omega, Nat.le_refl _⟩
theorem Kb.begin (h : Ka n₀ A F ca W) (hF : ∀ b, F b → b < W.heap.size) (cx : Array Value) : Kb n₀ A W.heap.size F ca cx.toList (W.alloc (.cells cx 33)) :=
  ⟨(h.step (abelow W _)).ba, Blk.new W cx _, h.na, fun e => by have := hF _ e; omega, h.ga, h.ba.lt⟩
end
def Wk.tou (s : Wk) : An × Wk := (An.is 8 { s.x with exp := moment s.now s.c.exp }, { s with l := s.kept { s.x with exp := moment s.now s.c.exp } })
def Wk.flu (s : Wk) : An × Wk := (An.of 10, if moment s.now s.c.exp ≤ s.now then { s with l := [], fl := 0 } else { s with fl := moment s.now s.c.exp })
section
variable {B : Nat} {F : Nat → Prop} {s : Wk} {w : World}
set_option maxHeartbeats 1000000 in
set_option maxRecDepth 100000 in
theorem wk_touch (h : WP B F s w) (hs : Sorted s.l) (hlen : s.l.length ≤ 4194304) (hi : s.ix < s.l.length) (n1 : 1 ≤ s.now) (n2 : s.now ≤ 1099511627776) :
    Calls Tryd.prog 54 #[.pointer (some ⟨B, 0, none⟩)] w fun e w' => e = .returned s.tou.1.v ∧ ∃ F', WP B F' s.tou.2 w' ∧ Stp F F' w w' := by
  obtain ⟨M, hM⟩ : ∃ M, M = moment s.now s.c.exp := ⟨_, rfl⟩
  have hmo := fun W (hW : WR B s W) => wk_moment hW s.c.exp n1 n2
  have hkp := fun W (hW : WP B F s W) => wk_keep hW hs hlen hi 8 { s.x with exp := M }
  simp only [an_lit] at hkp
  rw [← hM] at hmo
  obtain ⟨R, hR⟩ : ∃ R, R = s.tou := ⟨_, rfl⟩
  rw [← hR]
  have hR2 : R = (An.mk 8 (It.mk s.x.key s.x.flags s.x.val M s.x.cas s.x.last s.x.stale s.x.won) 0 false false false, { s with l := s.kept { s.x with exp := M } }) := by rw [hR, hM]; rfl
  clear hR hM hs hlen hi n1 n2
  subst hR2
  --GEN touch
  obtain ⟨A, hA⟩ : ∃ A, A = w.heap.size := ⟨_, rfl⟩
  obtain ⟨W1, h1⟩ : ∃ W1, w.alloc (.cells #[.int .i64 0, .string ⟨#[]⟩, .int .u32 0, .string ⟨#[]⟩, .int .i64 0, .int .u64 0, .int .i64 0, .bool false, .bool false, .int .u64 0, .bool false, .bool false, .bool false] 35) = W1 := ⟨_, rfl⟩
  have hb1 : Below w.heap.size w W1 := by rw [← h1]; exact abelow _ _
  have HA : Hid (Ka w.heap.size A F [.int .i64 0, .string ⟨#[]⟩, .int .u32 0, .string ⟨#[]⟩, .int .i64 0, .int .u64 0, .int .i64 0, .bool false, .bool false, .int .u64 0, .bool false, .bool false, .bool false] W1) := hid (by rw [← h1, hA]; exact Ka.begin h.lt #[.int .i64 0, .string ⟨#[]⟩, .int .u32 0, .string ⟨#[]⟩, .int .i64 0, .int .u64 0, .int .i64 0, .bool false, .bool false, .int .u64 0, .bool false, .bool false, .bool false])
  have HW := hid (h.below hb1)
  have HS : Hid (Stp F F w W1) := hid (Stp.of_below hb1)
  rw [eq_comm] at hA
  clear h hb1
  go_enter Tryd.func54, Tryd.ntmps54
  go_upto_region 1 with fail
  clear h1
  obtain ⟨X, hX⟩ : ∃ X, W1.heap.size = X := ⟨_, rfl⟩
  obtain ⟨W2, h2⟩ : ∃ W2, W1.alloc (.cells #[.string s.x.key, .int .u32 s.x.flags, .string s.x.val, .int .i64 s.x.exp, .int .u64 s.x.cas, .int .i64 s.x.last, .bool s.x.stale, .bool s.x.won] 33) = W2 := ⟨_, rfl⟩
  have hb2 : Below W1.heap.size W1 W2 := by rw [← h2]; exact abelow _ _
  have HB2 : Hid (Kb w.heap.size A X F [.int .i64 0, .string ⟨#[]⟩, .int .u32 0, .string ⟨#[]⟩, .int .i64 0, .int .u64 0, .int .i64 0, .bool false, .bool false, .int .u64 0, .bool false, .bool false, .bool false] [.string s.x.key, .int .u32 s.x.flags, .string s.x.val, .int .i64 s.x.exp, .int .u64 s.x.cas, .int .i64 s.x.last, .bool s.x.stale, .bool s.x.won] W2) := hid (by rw [← h2, ← hX]; exact Kb.begin HA.out HW.out.lt #[.string s.x.key, .int .u32 s.x.flags, .string s.x.val, .int .i64 s.x.exp, .int .u64 s.x.cas, .int .i64 s.x.last, .bool s.x.stale, .bool s.x.won])
  have HW2 := hid (HW.out.below hb2)
  have HS2 := hid (HS.out.below hb2)
  have H2 := hid h2
  obtain ⟨v, G, hB, -⟩ := HW.out
  have b22 := hB.cell (i := 22) rfl
  have b23 := hB.cell (i := 23) rfl
  have b24 := hB.cell (i := 24) rfl
  have b25 := hB.cell (i := 25) rfl
  have b26 := hB.cell (i := 26) rfl
  have b27 := hB.cell (i := 27) rfl
  have b28 := hB.cell (i := 28) rfl
  have b29 := hB.cell (i := 29) rfl
  clear hB
  clear h2 hb2 HA HW HS
  go_upto_region 2 with fail
  try rw [hX]
  try rw [H2.out]
  clear hX H2 b22 b23 b24 b25 b26 b27 b28 b29
  obtain ⟨v, G, hB, -⟩ := HW2.out
  have b8 := hB.cell (i := 8) rfl
  clear hB
  have hm := hmo W2 HW2.out.head
  clear hmo
  have x3 := HB2.out.bx.cell (i := 3) rfl
  have g3 := HB2.out.bx.frozen 3
  have lX := HB2.out.bx.lt
  have HB3 := hid (HB2.out.setx 3 (.int .i64 M))
  have HW3 := hid (wp_own HW2.out HB2.out.nx 3 (.int .i64 M))
  have HS3 := hid (stp_own HS2.out (b := X) (by have := HB2.out.ga; have := HB2.out.gx; omega) 3 (.int .i64 M))
  clear HB2 HW2 HS2 
  go_wp2_with fail
  refine hm.mono ?_
  rintro e _ ⟨rfl, rfl⟩
  go_upto_region 3 with fail
  generalize W2.setCell ⟨X, 3, none⟩ (.int .i64 M) = W3 at *
  clear x3 g3 lX
  clear hm b8
  have x0 := HB3.out.bx.cell (i := 0) rfl
  have x1 := HB3.out.bx.cell (i := 1) rfl
  have x2 := HB3.out.bx.cell (i := 2) rfl
  have x3 := HB3.out.bx.cell (i := 3) rfl
  have x4 := HB3.out.bx.cell (i := 4) rfl
  have x5 := HB3.out.bx.cell (i := 5) rfl
  have x6 := HB3.out.bx.cell (i := 6) rfl
  have x7 := HB3.out.bx.cell (i := 7) rfl
  have hk := hkp W3 HW3.out
  clear hkp
  go_wp2_with fail
  refine hk.mono ?_
  rintro e W4 ⟨rfl, F4, h4, k4⟩
  have HB4 := hid (HB3.out.stp k4)
  have HW4 := hid h4
  have HS4 := hid (HS3.out.trans k4)
  clear h4 k4 hk x0 x1 x2 x3 x4 x5 x6 x7 HB3 HW3 HS3 
  have e0 := HB4.out.ba.cell (i := 0) rfl
  have f0 := HB4.out.ba.frozen 0
  have e1 := HB4.out.ba.cell (i := 1) rfl
  have f1 := HB4.out.ba.frozen 1
  have e2 := HB4.out.ba.cell (i := 2) rfl
  have f2 := HB4.out.ba.frozen 2
  have e3 := HB4.out.ba.cell (i := 3) rfl
  have f3 := HB4.out.ba.frozen 3
  have e4 := HB4.out.ba.cell (i := 4) rfl
  have f4 := HB4.out.ba.frozen 4
  have e5 := HB4.out.ba.cell (i := 5) rfl
  have f5 := HB4.out.ba.frozen 5
  have e6 := HB4.out.ba.cell (i := 6) rfl
  have f6 := HB4.out.ba.frozen 6
  have e7 := HB4.out.ba.cell (i := 7) rfl
  have f7 := HB4.out.ba.frozen 7
  have e8 := HB4.out.ba.cell (i := 8) rfl
  have f8 := HB4.out.ba.frozen 8
  have e9 := HB4.out.ba.cell (i := 9) rfl
  have f9 := HB4.out.ba.frozen 9
  have e10 := HB4.out.ba.cell (i := 10) rfl
  have f10 := HB4.out.ba.frozen 10
  have e11 := HB4.out.ba.cell (i := 11) rfl
  have f11 := HB4.out.ba.frozen 11
  have e12 := HB4.out.ba.cell (i := 12) rfl
  have f12 := HB4.out.ba.frozen 12
  go_wp2_with fail
  change bodyPost _ _ _ _ _ (stc W4 A (An.mk 8 (It.mk s.x.key s.x.flags s.x.val M s.x.cas s.x.last s.x.stale s.x.won) 0 false false false).cells 0)
  exact bodyPost_ret (res_ans (a := An.mk 8 (It.mk s.x.key s.x.flags s.x.val M s.x.cas s.x.last s.x.stale s.x.won) 0 false false false) rfl (stc_all HB4.out.ba rfl) rfl) rfl ⟨rfl, F4, wp_stc HW4.out HB4.out.na _ _, stp_stc HS4.out HB4.out.ga _ _⟩
  --END
theorem wp_nil (h : WP B F s w) : WP B F { s with l := [] } (w.setCell ⟨B, 0, none⟩ (.slice none 0 0)) ∧ Stp F F w (w.setCell ⟨B, 0, none⟩ (.slice none 0 0)) := by
  obtain ⟨v, G, hB, hR, hFB, hGB, hGF, hFl⟩ := h
  have ho : Only (fun b => b = B) w (w.setCell ⟨B, 0, none⟩ (.slice none 0 0)) := Only.setCell (D := fun b => b = B) (Only.refl _ _) (p := ⟨B, 0, none⟩) (.inl rfl) _
  have hz : (w.setCell ⟨B, 0, none⟩ (.slice none 0 0)).heap.size = w.heap.size := by simp [World.setCell]
  exact ⟨⟨.slice none 0 0, G, hB.set 0 _, rw_nil _ _, hFB, hGB, fun b hb => by rw [hz]; exact hGF b hb, fun b hb => by rw [hz]; exact hFl b hb⟩, ⟨ho.mono (fun b hb => by rw [hb]; exact hFB), fun b hb => .inl hb⟩⟩
set_option maxHeartbeats 1000000 in
set_option maxRecDepth 100000 in
theorem wk_flush (h : WP B F s w) (n1 : 1 ≤ s.now) (n2 : s.now ≤ 1099511627776) :
    Calls Tryd.prog 50 #[.pointer (some ⟨B, 0, none⟩)] w fun e w' => e = .returned s.flu.1.v ∧ ∃ F', WP B F' s.flu.2 w' ∧ Stp F F' w w' := by
  obtain ⟨M, hM⟩ : ∃ M, M = moment s.now s.c.exp := ⟨_, rfl⟩
  have hmo := fun W (hW : WR B s W) => wk_moment hW s.c.exp n1 n2
  rw [← hM] at hmo
  obtain ⟨R, hR⟩ : ∃ R, R = s.flu := ⟨_, rfl⟩
  rw [← hR]
  have HR := hid hR
  have HM := hid hM
  clear hR hM n1 n2
  --GEN flush
  obtain ⟨A, hA⟩ : ∃ A, A = w.heap.size := ⟨_, rfl⟩
  obtain ⟨W1, h1⟩ : ∃ W1, w.alloc (.cells #[.int .i64 0, .string ⟨#[]⟩, .int .u32 0, .string ⟨#[]⟩, .int .i64 0, .int .u64 0, .int .i64 0, .bool false, .bool false, .int .u64 0, .bool false, .bool false, .bool false] 35) = W1 := ⟨_, rfl⟩
  have hb1 : Below w.heap.size w W1 := by rw [← h1]; exact abelow _ _
  have HA : Hid (Ka w.heap.size A F [.int .i64 0, .string ⟨#[]⟩, .int .u32 0, .string ⟨#[]⟩, .int .i64 0, .int .u64 0, .int .i64 0, .bool false, .bool false, .int .u64 0, .bool false, .bool false, .bool false] W1) := hid (by rw [← h1, hA]; exact Ka.begin h.lt #[.int .i64 0, .string ⟨#[]⟩, .int .u32 0, .string ⟨#[]⟩, .int .i64 0, .int .u64 0, .int .i64 0, .bool false, .bool false, .int .u64 0, .bool false, .bool false, .bool false])
  have HW := hid (h.below hb1)
  have HS : Hid (Stp F F w W1) := hid (Stp.of_below hb1)
  rw [eq_comm] at hA
  clear h hb1
  go_enter Tryd.func50, Tryd.ntmps50
  go_upto_region 1 with fail
  clear h1
  obtain ⟨v, G, hB, -⟩ := HW.out
  have b2 := hB.cell (i := 2) rfl
  have b8 := hB.cell (i := 8) rfl
  clear hB
  have hm := hmo W1 HW.out.head
  clear hmo
  obtain ⟨v, G, hB, -⟩ := HW.out
  have g2 := hB.frozen 2
  have lB := hB.lt
  clear hB
  have hq := wp_cell (t := { s with fl := M }) HW.out 2 (.int .i64 M) rfl (fun _ => rfl)
  have HW2 := hid hq.1
  have HA2 := hid (HA.out.stp hq.2)
  have HS2 := hid (HS.out.trans hq.2)
  clear hq HW HA HS
  go_wp2_with fail
  refine hm.mono ?_
  rintro e _ ⟨rfl, rfl⟩
  go_upto_region 2 with fail
  generalize W1.setCell ⟨B, 2, none⟩ (.int .i64 M) = W2 at *
  clear hm b2 b8 g2 lB
  --END
  obtain ⟨v, G, hB, -⟩ := HW2.out
  have c1 := hB.cell (i := 2) rfl
  have c2 := hB.cell (i := 19) rfl
  change W2.cell? ⟨B, 2, none⟩ = some (.int .i64 M) at c1
  change W2.cell? ⟨B, 19, none⟩ = some (.int .i64 s.now) at c2
  clear hB
  by_cases hc : M ≤ s.now
  · have hR2 : R = (An.of 10, { s with l := [], fl := 0 }) := by rw [HR.out]; unfold Wk.flu; rw [← HM.out, if_pos hc]
    subst hR2
    clear HR HM
    generalize s.now = now at c2 hc
    go_wp2_with fail
    go_quiet (fail)
    have hb3 := below_drewN' W2 nq
    have HW3 := hid (HW2.out.below hb3)
    have HA3 := hid (HA2.out.step hb3)
    have HS3 := hid (HS2.out.below hb3)
    clear hb3 c1 c2 HW2 HA2 HS2
    generalize W2.drewN nq = W3 at *
    obtain ⟨v3, G3, hB, -⟩ := HW3.out
    have d0 := hB.cell (i := 0) rfl
    have g0 := hB.frozen 0
    have d2 := hB.cell (i := 2) rfl
    have g2 := hB.frozen 2
    have lB := hB.lt
    clear hB
    have hq := wp_nil HW3.out
    have hq2 := wp_cell (t := { s with l := [], fl := 0 }) hq.1 2 (.int .i64 0) rfl (fun _ => rfl)
    have HW4 := hid hq2.1
    have HA4 := hid ((HA3.out.stp hq.2).stp hq2.2)
    have HS4 := hid ((HS3.out.trans hq.2).trans hq2.2)
    clear hq hq2 HW3 HA3 HS3
    go_upto_region 4 with fail
    generalize (W3.setCell ⟨B, 0, none⟩ (.slice none 0 0)).setCell ⟨B, 2, none⟩ (.int .i64 0) = W4 at *
    clear d0 g0 d2 g2 lB
    --GEN f1
    have e0 := HA4.out.ba.cell (i := 0) rfl
    have f0 := HA4.out.ba.frozen 0
    have e1 := HA4.out.ba.cell (i := 1) rfl
    have f1 := HA4.out.ba.frozen 1
    have e2 := HA4.out.ba.cell (i := 2) rfl
    have f2 := HA4.out.ba.frozen 2
    have e3 := HA4.out.ba.cell (i := 3) rfl
    have f3 := HA4.out.ba.frozen 3
    have e4 := HA4.out.ba.cell (i := 4) rfl
    have f4 := HA4.out.ba.frozen 4
    have e5 := HA4.out.ba.cell (i := 5) rfl
    have f5 := HA4.out.ba.frozen 5
    have e6 := HA4.out.ba.cell (i := 6) rfl
    have f6 := HA4.out.ba.frozen 6
    have e7 := HA4.out.ba.cell (i := 7) rfl
    have f7 := HA4.out.ba.frozen 7
    have e8 := HA4.out.ba.cell (i := 8) rfl
    have f8 := HA4.out.ba.frozen 8
    have e9 := HA4.out.ba.cell (i := 9) rfl
    have f9 := HA4.out.ba.frozen 9
    have e10 := HA4.out.ba.cell (i := 10) rfl
    have f10 := HA4.out.ba.frozen 10
    have e11 := HA4.out.ba.cell (i := 11) rfl
    have f11 := HA4.out.ba.frozen 11
    have e12 := HA4.out.ba.cell (i := 12) rfl
    have f12 := HA4.out.ba.frozen 12
    go_wp2_with fail
    change bodyPost _ _ _ _ _ (stc W4 A (An.of 10).cells 0)
    exact bodyPost_ret (res_ans (a := An.of 10) rfl (stc_all HA4.out.ba rfl) rfl) rfl ⟨rfl, F, wp_stc HW4.out HA4.out.na _ _, stp_stc HS4.out HA4.out.ga _ _⟩
    --END
  · have hR2 : R = (An.of 10, { s with fl := M }) := by rw [HR.out]; unfold Wk.flu; rw [← HM.out, if_neg hc]
    subst hR2
    clear HR HM
    generalize s.now = now at c2 hc
    have hd : decide (M ≤ now) = false := decide_eq_false hc
    go_wp2_with fail
    go_quiet (fail)
    have hb3 := below_drewN' W2 nq
    have HW4 := hid (HW2.out.below hb3)
    have HA4 := hid (HA2.out.step hb3)
    have HS4 := hid (HS2.out.below hb3)
    clear hb3 c1 c2 HW2 HA2 HS2
    generalize W2.drewN nq = W4 at *
    --GEN f2
    have e0 := HA4.out.ba.cell (i := 0) rfl
    have f0 := HA4.out.ba.frozen 0
    have e1 := HA4.out.ba.cell (i := 1) rfl
    have f1 := HA4.out.ba.frozen 1
    have e2 := HA4.out.ba.cell (i := 2) rfl
    have f2 := HA4.out.ba.frozen 2
    have e3 := HA4.out.ba.cell (i := 3) rfl
    have f3 := HA4.out.ba.frozen 3
    have e4 := HA4.out.ba.cell (i := 4) rfl
    have f4 := HA4.out.ba.frozen 4
    have e5 := HA4.out.ba.cell (i := 5) rfl
    have f5 := HA4.out.ba.frozen 5
    have e6 := HA4.out.ba.cell (i := 6) rfl
    have f6 := HA4.out.ba.frozen 6
    have e7 := HA4.out.ba.cell (i := 7) rfl
    have f7 := HA4.out.ba.frozen 7
    have e8 := HA4.out.ba.cell (i := 8) rfl
    have f8 := HA4.out.ba.frozen 8
    have e9 := HA4.out.ba.cell (i := 9) rfl
    have f9 := HA4.out.ba.frozen 9
    have e10 := HA4.out.ba.cell (i := 10) rfl
    have f10 := HA4.out.ba.frozen 10
    have e11 := HA4.out.ba.cell (i := 11) rfl
    have f11 := HA4.out.ba.frozen 11
    have e12 := HA4.out.ba.cell (i := 12) rfl
    have f12 := HA4.out.ba.frozen 12
    go_wp2_with fail
    change bodyPost _ _ _ _ _ (stc W4 A (An.of 10).cells 0)
    exact bodyPost_ret (res_ans (a := An.of 10) rfl (stc_all HA4.out.ba rfl) rfl) rfl ⟨rfl, F, wp_stc HW4.out HA4.out.na _ _, stp_stc HS4.out HA4.out.ga _ _⟩
    --END
end
end Go.Proofs.YtpgljahomeebhaaDoor.Md
