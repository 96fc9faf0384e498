/-
  The contracts of keepAnew and keepCounted. Conditions: the items stand in order, and are not over many; texts are not over long.
-/
import Derived.Test.YtpgljahomeebhaaDoorMpKeep
import Derived.Test.YtpgljahomeebhaaDoorBaseC
namespace Go.Proofs.YtpgljahomeebhaaDoor.Md
open Go Go.RowKit Go.Lib

section
variable {B : Nat} {F F' : Nat → Prop} {s t : Wk} {w w0 W W' : World} {cx ca vs : List Value}
/-- A cell of what is worked on turns. -/
theorem wp_cell (h : WP B F s w) (i : Nat) (u : Value) (hl : t.l = s.l) (hc : ∀ v, t.cells v = (s.cells v).set i u) : WP B F t (w.setCell ⟨B, i, none⟩ u) ∧ Stp F F w (w.setCell ⟨B, i, none⟩ u) := by
  obtain ⟨v, G, hB, hR, hFB, hGB, hGF, hFl⟩ := h
  have ho : Only (fun b => b = B) w (w.setCell ⟨B, i, none⟩ u) := Only.setCell (D := fun b => b = B) (Only.refl _ _) (p := ⟨B, i, none⟩) (.inl rfl) _
  have hz : (w.setCell ⟨B, i, none⟩ u).heap.size = w.heap.size := by simp [World.setCell]
  refine ⟨⟨v, G, by rw [hc]; exact hB.set i u, by rw [hl]; exact hR.only ho (fun b hb e => hGB (by rw [← e]; exact hb)), hFB, hGB, fun b hb => by rw [hz]; exact hGF b hb, fun b hb => by rw [hz]; exact hFl b hb⟩, ⟨ho.mono (fun b hb => by rw [hb]; exact hFB), fun b hb => .inl hb⟩⟩
theorem K2.setx (h : K2 w0 F cx ca W) (i : Nat) (u : Value) : K2 w0 F (cx.set i u) ca (W.setCell ⟨w0.heap.size, i, none⟩ u) := ⟨h.bx.set i u, h.ba.setOther (p := ⟨w0.heap.size, i, none⟩) (by show w0.heap.size + 1 ≠ w0.heap.size; omega) u, h.nx, h.na⟩
theorem K2.seta (h : K2 w0 F cx ca W) (i : Nat) (u : Value) : K2 w0 F cx (ca.set i u) (W.setCell ⟨w0.heap.size + 1, i, none⟩ u) := ⟨h.bx.setOther (p := ⟨w0.heap.size + 1, i, none⟩) (by show w0.heap.size ≠ w0.heap.size + 1; omega) u, h.ba.set i u, h.nx, h.na⟩
theorem K2.oth (h : K2 w0 F cx ca W) {b : Nat} (h1 : w0.heap.size + 1 < b) (i : Nat) (u : Value) : K2 w0 F cx ca (W.setCell ⟨b, i, none⟩ u) := ⟨h.bx.setOther (p := ⟨b, i, none⟩) (by show w0.heap.size ≠ b; omega) u, h.ba.setOther (p := ⟨b, i, none⟩) (by show w0.heap.size + 1 ≠ b; omega) u, h.nx, h.na⟩
/-- A cell of a box of the call's own turns. -/
theorem wp_own (h : WP B F s W) {b : Nat} (hb : ¬ F b) (i : Nat) (u : Value) : WP B F s (W.setCell ⟨b, i, none⟩ u) := wp_stc h hb [u] i
theorem stp_own (h : Stp F F' w0 W) {b : Nat} (hb : w0.heap.size ≤ b) (i : Nat) (u : Value) : Stp F F' w0 (W.setCell ⟨b, i, none⟩ u) := stp_stc h hb [u] i
set_option maxHeartbeats 1000000 in
set_option maxRecDepth 100000 in
theorem wk_anew (h : WP B F s w) (hs : Sorted s.l) (hlen : s.l.length ≤ 4194304) (hi : s.ix < s.l.length) (st : Int) (x : It) :
    Calls Tryd.prog 59 #[.pointer (some ⟨B, 0, none⟩), .int .i64 st, x.v] w fun e w' => e = .returned (An.is st { x with cas := bump s.cas }).v ∧ ∃ F', WP B F' { s with cas := bump s.cas, l := s.kept { x with cas := bump s.cas } } w' ∧ Stp F F' w w' := by
  obtain ⟨kx, fx, vx, ex, cx, lx, sx, ox⟩ := x
  show Calls Tryd.prog 59 #[.pointer (some ⟨B, 0, none⟩), .int .i64 st, .agg #[.string kx, .int .u32 fx, .string vx, .int .i64 ex, .int .u64 cx, .int .i64 lx, .bool sx, .bool ox]] w fun e w' => e = .returned (An.is st ⟨kx, fx, vx, ex, bump s.cas, lx, sx, ox⟩).v ∧ ∃ F', WP B F' { s with cas := bump s.cas, l := s.kept ⟨kx, fx, vx, ex, bump s.cas, lx, sx, ox⟩ } w' ∧ Stp F F' w w'
  have hK := K2.begin #[.string kx, .int .u32 fx, .string vx, .int .i64 ex, .int .u64 cx, .int .i64 lx, .bool sx, .bool ox] #[.int .i64 0, .string emp, .int .u32 0, .string emp, .int .i64 0, .int .u64 0, .int .i64 0, .bool false, .bool false, .int .u64 0, .bool false, .bool false, .bool false] h.lt
  obtain ⟨C, hC⟩ : ∃ C, C = bump s.cas := ⟨_, rfl⟩
  have qC : IntKind.u64.wrap ((s.cas : Int) + 1) = (C : Int) := by rw [hC]; exact wrap_bump _
  rw [← hC]
  obtain ⟨t, ht⟩ : ∃ t : Wk, t = { s with cas := C } := ⟨_, rfl⟩
  have hkept : s.kept ⟨kx, fx, vx, ex, C, lx, sx, ox⟩ = t.kept ⟨kx, fx, vx, ex, C, lx, sx, ox⟩ := by rw [ht]; rfl
  have htl : t.l = s.l := by rw [ht]
  -- behind the first stores
  have HX : Hid (∀ W1, W1 = ((w.alloc (.cells #[.string kx, .int .u32 fx, .string vx, .int .i64 ex, .int .u64 cx, .int .i64 lx, .bool sx, .bool ox] 33)).alloc (.cells #[.int .i64 0, .string emp, .int .u32 0, .string emp, .int .i64 0, .int .u64 0, .int .i64 0, .bool false, .bool false, .int .u64 0, .bool false, .bool false, .bool false] 35)) →
      (W1.cell? ⟨B, 1, none⟩ = some (.int .u64 s.cas) ∧ W1.frozen? ⟨B, 1, none⟩ = false ∧ B < W1.heap.size ∧ w.heap.size ≠ B) ∧ K2 w F [.string kx, .int .u32 fx, .string vx, .int .i64 ex, .int .u64 cx, .int .i64 lx, .bool sx, .bool ox] zA (W1.setCell ⟨B, 1, none⟩ (.int .u64 C)) ∧ WP B F t (W1.setCell ⟨B, 1, none⟩ (.int .u64 C)) ∧ Stp F F w (W1.setCell ⟨B, 1, none⟩ (.int .u64 C))) := hid (by
    rintro W1 rfl
    have h1 := h.below hK.2
    obtain ⟨v, G, hB, _⟩ := id h1
    obtain ⟨k1, k2⟩ := wp_cell (t := t) h1 1 (.int .u64 C) htl (fun v => by rw [ht]; rfl)
    exact ⟨⟨hB.cell (i := 1) rfl, hB.frozen 1, hB.lt, fun e => hK.1.nx (by rw [e]; exact h1.FB)⟩, hK.1.stp k2, k1, Stp.ahead hK.2 k2⟩)
  have HT := hid htl
  have HTd := hid ht
  have HKE := hid hkept
  clear hK h ht hkept htl hC
  obtain ⟨Wa, ha⟩ : ∃ Wa, w.alloc (.cells #[.string kx, .int .u32 fx, .string vx, .int .i64 ex, .int .u64 cx, .int .i64 lx, .bool sx, .bool ox] 33) = Wa := ⟨_, rfl⟩
  have hz : Wa.heap.size = w.heap.size + 1 := by rw [← ha]; simp
  rw [ha] at HX
  obtain ⟨W1, h1⟩ : ∃ W1, Wa.alloc (.cells #[.int .i64 0, .string ⟨#[]⟩, .int .u32 0, .string ⟨#[]⟩, .int .i64 0, .int .u64 0, .int .i64 0, .bool false, .bool false, .int .u64 0, .bool false, .bool false, .bool false] 35) = W1 := ⟨_, rfl⟩
  obtain ⟨⟨c1, g1, l1, n1⟩, hK, hW, hS⟩ := HX.out W1 h1.symm
  have HK := hid hK
  have HW := hid hW
  have HS := hid hS
  clear HX hK hW hS
  go_enter Tryd.func59, Tryd.ntmps59
  go_upto_region 2 with fail
  clear ha h1 hz
  generalize W1.setCell ⟨B, 1, none⟩ (.int .u64 C) = W2 at *
  obtain ⟨v, G, hB, -⟩ := HW.out
  have c1 := hB.cell (i := 1) rfl
  change W2.cell? ⟨B, 1, none⟩ = some (.int .u64 t.cas) at c1
  rw [show t.cas = C by rw [HTd.out]] at c1
  have x4 := HK.out.bx.cell (i := 4) rfl
  have g4 := HK.out.bx.frozen 4
  have l4 := HK.out.bx.lt
  have HK3 := hid (HK.out.setx 4 (.int .u64 C))
  have HW3 := hid (wp_own HW.out HK.out.nx 4 (.int .u64 C))
  have HS3 := hid (stp_own HS.out (Nat.le_refl _) 4 (.int .u64 C))
  clear hB HK HW HS
  go_upto_region 3 with fail
  generalize W2.setCell ⟨w.heap.size, 4, none⟩ (.int .u64 C) = W3 at *
  clear c1 x4 g4 l4
  have x0 := HK3.out.bx.cell (i := 0) rfl
  have x1 := HK3.out.bx.cell (i := 1) rfl
  have x2 := HK3.out.bx.cell (i := 2) rfl
  have x3 := HK3.out.bx.cell (i := 3) rfl
  have x4 := HK3.out.bx.cell (i := 4) rfl
  have x5 := HK3.out.bx.cell (i := 5) rfl
  have x6 := HK3.out.bx.cell (i := 6) rfl
  have x7 := HK3.out.bx.cell (i := 7) rfl
  have hkeep := wk_keep HW3.out (by rw [HT.out]; exact hs) (by rw [HT.out]; exact hlen) (by rw [HT.out, HTd.out]; exact hi) st ⟨kx, fx, vx, ex, C, lx, sx, ox⟩
  rw [← HKE.out] at hkeep
  rw [an_lit] at hkeep
  clear hs hlen hi
  go_wp2_with fail
  refine hkeep.mono ?_
  rintro e W4 ⟨rfl, F4, h4, k4⟩
  have HK4 := hid (HK3.out.stp k4)
  have HW4 : Hid (WP B F4 { s with cas := C, l := s.kept ⟨kx, fx, vx, ex, C, lx, sx, ox⟩ } W4) := hid (by rw [HTd.out] at h4; exact h4)
  have HS4 := hid (HS3.out.trans k4)
  clear h4 k4 hkeep x0 x1 x2 x3 x4 x5 x6 x7 HK3 HW3 HS3
  --GEN tail
  have y0 := HK4.out.bx.cell (i := 0) rfl
  have y1 := HK4.out.bx.cell (i := 1) rfl
  have y2 := HK4.out.bx.cell (i := 2) rfl
  have y3 := HK4.out.bx.cell (i := 3) rfl
  have y4 := HK4.out.bx.cell (i := 4) rfl
  have y5 := HK4.out.bx.cell (i := 5) rfl
  have y6 := HK4.out.bx.cell (i := 6) rfl
  have y7 := HK4.out.bx.cell (i := 7) rfl
  have e0 := HK4.out.ba.cell (i := 0) rfl
  have f0 := HK4.out.ba.frozen 0
  have e1 := HK4.out.ba.cell (i := 1) rfl
  have f1 := HK4.out.ba.frozen 1
  have e2 := HK4.out.ba.cell (i := 2) rfl
  have f2 := HK4.out.ba.frozen 2
  have e3 := HK4.out.ba.cell (i := 3) rfl
  have f3 := HK4.out.ba.frozen 3
  have e4 := HK4.out.ba.cell (i := 4) rfl
  have f4 := HK4.out.ba.frozen 4
  have e5 := HK4.out.ba.cell (i := 5) rfl
  have f5 := HK4.out.ba.frozen 5
  have e6 := HK4.out.ba.cell (i := 6) rfl
  have f6 := HK4.out.ba.frozen 6
  have e7 := HK4.out.ba.cell (i := 7) rfl
  have f7 := HK4.out.ba.frozen 7
  have e8 := HK4.out.ba.cell (i := 8) rfl
  have f8 := HK4.out.ba.frozen 8
  have e9 := HK4.out.ba.cell (i := 9) rfl
  have f9 := HK4.out.ba.frozen 9
  have e10 := HK4.out.ba.cell (i := 10) rfl
  have f10 := HK4.out.ba.frozen 10
  have e11 := HK4.out.ba.cell (i := 11) rfl
  have f11 := HK4.out.ba.frozen 11
  have e12 := HK4.out.ba.cell (i := 12) rfl
  have f12 := HK4.out.ba.frozen 12
  go_wp2_with fail
  change bodyPost _ _ _ _ _ (stc W4 (w.heap.size + 1) (An.is st ⟨kx, fx, vx, ex, C, lx, sx, ox⟩).cells 0)
  exact bodyPost_ret (res_ans (a := An.is st ⟨kx, fx, vx, ex, C, lx, sx, ox⟩) rfl (stc_all HK4.out.ba rfl) rfl) rfl ⟨rfl, F4, wp_stc HW4.out HK4.out.na _ _, stp_stc HS4.out (by omega) _ _⟩
  --END
end
/-- What was there when the whole call began. -/
structure Bg (w0 : World) (F : Nat → Prop) (w : World) : Prop where
  below : Below w0.heap.size w0 w
  ge : ∀ b, F b → w0.heap.size ≤ b
  vars : Nu.Vars w0
section
variable {B : Nat} {F F' : Nat → Prop} {s : Wk} {w w0 w' : World}
theorem Bg.stp (h : Bg w0 F w) (k : Stp F F' w w') : Bg w0 F' w' :=
  ⟨h.below.trans (k.only.below h.below.size h.ge), fun b hb => (k.foot b hb).elim (h.ge b) (fun e => Nat.le_trans h.below.size e), h.vars⟩
theorem Bg.v (h : Bg w0 F w) : Nu.Vars w := h.vars.below h.below
def Wk.cnt (s : Wk) (x : It) : An × Wk :=
  if s.large x then (An.of 11, s) else (⟨6, { x with cas := bump s.cas }, (Nu.parseU x.val.data.toList).getD 0, false, false, false⟩, { s with cas := bump s.cas, l := s.kept { x with cas := bump s.cas } })
theorem uv_is (o : Option Nat) : ∃ b, Nu.uv o = .tuple #[.int .u64 (o.getD 0 : Nat), .bool b] := by
  cases o with
  | none => exact ⟨false, rfl⟩
  | some n => exact ⟨true, rfl⟩
set_option maxHeartbeats 1000000 in
set_option maxRecDepth 100000 in
theorem wk_counted (h : WP B F s w) (hg : Bg w0 F w) (hs : Sorted s.l) (hlen : s.l.length ≤ 4194304) (hi : s.ix < s.l.length) (x : It) (hk : x.key.size ≤ 4194304) (hv : x.val.size ≤ 4194304) :
    Calls Tryd.prog 61 #[.pointer (some ⟨B, 0, none⟩), x.v] w fun e w' => e = .returned (s.cnt x).1.v ∧ ∃ F', WP B F' (s.cnt x).2 w' ∧ Stp F F' w w' := by
  have hlg := fun W (hW : WR B s W) => wk_large hW x hk hv
  clear hk hv
  obtain ⟨kx, fx, vx, ex, cx, lx, sx, ox⟩ := x
  obtain ⟨R, hR⟩ : ∃ R, R = s.cnt ⟨kx, fx, vx, ex, cx, lx, sx, ox⟩ := ⟨_, rfl⟩
  show Calls Tryd.prog 61 #[.pointer (some ⟨B, 0, none⟩), .agg #[.string kx, .int .u32 fx, .string vx, .int .i64 ex, .int .u64 cx, .int .i64 lx, .bool sx, .bool ox]] w fun e w' => e = .returned (s.cnt ⟨kx, fx, vx, ex, cx, lx, sx, ox⟩).1.v ∧ ∃ F', WP B F' (s.cnt ⟨kx, fx, vx, ex, cx, lx, sx, ox⟩).2 w' ∧ Stp F F' w w'
  rw [← hR]
  have HR := hid hR
  have hK := K2.begin #[.string kx, .int .u32 fx, .string vx, .int .i64 ex, .int .u64 cx, .int .i64 lx, .bool sx, .bool ox] #[.int .i64 0, .string ⟨#[]⟩, .int .u32 0, .string ⟨#[]⟩, .int .i64 0, .int .u64 0, .int .i64 0, .bool false, .bool false, .int .u64 0, .bool false, .bool false, .bool false] h.lt
  obtain ⟨Wa, ha⟩ : ∃ Wa, w.alloc (.cells #[.string kx, .int .u32 fx, .string vx, .int .i64 ex, .int .u64 cx, .int .i64 lx, .bool sx, .bool ox] 33) = Wa := ⟨_, rfl⟩
  have hz : Wa.heap.size = w.heap.size + 1 := by rw [← ha]; simp
  rw [ha] at hK
  obtain ⟨W1, h1⟩ : ∃ W1, Wa.alloc (.cells #[.int .i64 0, .string ⟨#[]⟩, .int .u32 0, .string ⟨#[]⟩, .int .i64 0, .int .u64 0, .int .i64 0, .bool false, .bool false, .int .u64 0, .bool false, .bool false, .bool false] 35) = W1 := ⟨_, rfl⟩
  rw [h1] at hK
  have HK := hid hK.1
  have HW := hid (h.below hK.2)
  have HS : Hid (Stp F F w W1) := hid (Stp.of_below hK.2)
  have hlarge := hlg W1 HW.out.head
  have HG := hid hg
  clear hR hK h hg hlg
  go_enter Tryd.func61, Tryd.ntmps61
  go_upto_region 1 with fail
  clear ha h1 hz
  have x0 := HK.out.bx.cell (i := 0) rfl
  have x1 := HK.out.bx.cell (i := 1) rfl
  have x2 := HK.out.bx.cell (i := 2) rfl
  have x3 := HK.out.bx.cell (i := 3) rfl
  have x4 := HK.out.bx.cell (i := 4) rfl
  have x5 := HK.out.bx.cell (i := 5) rfl
  have x6 := HK.out.bx.cell (i := 6) rfl
  have x7 := HK.out.bx.cell (i := 7) rfl
  go_wp2_with fail
  refine hlarge.mono ?_
  rintro e W2 ⟨rfl, hb2⟩
  clear x0 x1 x2 x3 x4 x5 x6 x7 hlarge
  have HK2 := hid (HK.out.step hb2)
  have HW2 := hid (HW.out.below hb2)
  have HS2 := hid (HS.out.below hb2)
  clear HK HW HS hb2
  cases hl : s.large ⟨kx, fx, vx, ex, cx, lx, sx, ox⟩
  · obtain ⟨C, hC⟩ : ∃ C, C = bump s.cas := ⟨_, rfl⟩
    obtain ⟨P, hP⟩ : ∃ P, P = (Nu.parseU vx.data.toList).getD 0 := ⟨_, rfl⟩
    have hR : R = (⟨6, ⟨kx, fx, vx, ex, C, lx, sx, ox⟩, P, false, false, false⟩, { s with cas := C, l := s.kept ⟨kx, fx, vx, ex, C, lx, sx, ox⟩ }) := by
      rw [HR.out, hC, hP]; unfold Wk.cnt; rw [hl]; rfl
    subst hR
    clear HR hl
    have x0 := HK2.out.bx.cell (i := 0) rfl
    have x1 := HK2.out.bx.cell (i := 1) rfl
    have x2 := HK2.out.bx.cell (i := 2) rfl
    have x3 := HK2.out.bx.cell (i := 3) rfl
    have x4 := HK2.out.bx.cell (i := 4) rfl
    have x5 := HK2.out.bx.cell (i := 5) rfl
    have x6 := HK2.out.bx.cell (i := 6) rfl
    have x7 := HK2.out.bx.cell (i := 7) rfl
    have hanew := wk_anew HW2.out hs hlen hi 6 ⟨kx, fx, vx, ex, cx, lx, sx, ox⟩
    rw [an_lit] at hanew
    simp only [← hC] at hanew
    clear hs hlen hi hC
    go_wp2_with fail
    refine hanew.mono ?_
    rintro e W3 ⟨rfl, F3, h3, k3⟩
    have HK3 := hid (HK2.out.stp k3)
    have HS3 := hid (HS2.out.trans k3)
    have HW3 := hid h3
    clear x0 x1 x2 x3 x4 x5 x6 x7 hanew h3 k3 HK2 HS2 HW2
    obtain ⟨W4, h4⟩ : ∃ W4, W3.alloc (.cells #[.int .i64 6, .string kx, .int .u32 fx, .string vx, .int .i64 ex, .int .u64 C, .int .i64 lx, .bool sx, .bool ox, .int .u64 0, .bool false, .bool false, .bool false] 35) = W4 := ⟨_, rfl⟩
    have hb4 : Below W3.heap.size W3 W4 := by rw [← h4]; exact abelow _ _
    have HD4 : Hid (Blk W4 W3.heap.size 35 [.int .i64 6, .string kx, .int .u32 fx, .string vx, .int .i64 ex, .int .u64 C, .int .i64 lx, .bool sx, .bool ox, .int .u64 0, .bool false, .bool false, .bool false]) := hid (by rw [← h4]; exact Blk.new W3 #[.int .i64 6, .string kx, .int .u32 fx, .string vx, .int .i64 ex, .int .u64 C, .int .i64 lx, .bool sx, .bool ox, .int .u64 0, .bool false, .bool false, .bool false] _)
    have HK4 := hid (HK3.out.step hb4)
    have HW4 := hid (HW3.out.below hb4)
    have HS4 := hid (HS3.out.below hb4)
    have HN : Hid (¬ F3 W3.heap.size ∧ w.heap.size + 1 < W3.heap.size) := hid ⟨HW3.out.new (Nat.le_refl _), HK3.out.ba.lt⟩
    generalize hD : W3.heap.size = D at *
    have x2 := HK4.out.bx.cell (i := 2) rfl
    have hpar := Nu.parse_any vx W4 ((HG.out.stp HS4.out).v)
    obtain ⟨bb, hu⟩ := uv_is (Nu.parseU vx.data.toList)
    rw [hu, ← hP] at hpar
    clear hu HK3 HW3 HS3 hb4 hP
    have H4 := hid h4
    clear h4
    go_upto_region 4 with fail
    try rw [hD]
    try rw [H4.out]
    clear H4 hD
    go_wp2_with fail
    refine hpar.mono ?_
    rintro e W5 ⟨rfl, hb5⟩
    have HD5 := hid (HD4.out.below hb5)
    have HK5 := hid (HK4.out.step hb5)
    have d9 := HD5.out.cell (i := 9) rfl
    have g9 := HD5.out.frozen 9
    have l9 := HD5.out.lt
    have HD6 := hid (HD5.out.set 9 (.int .u64 P))
    have HK6 := hid (HK5.out.oth HN.out.2 9 (.int .u64 P))
    have HW6 := hid (wp_own (HW4.out.below hb5) HN.out.1 9 (.int .u64 P))
    have HS6 := hid (stp_own (HS4.out.below hb5) (b := D) (by have := HN.out.2; omega) 9 (.int .u64 P))
    clear hpar hb5 x2 HD4 HD5 HK4 HK5 HW4 HS4
    go_upto_region 5 with fail
    generalize W5.setCell ⟨D, 9, none⟩ (.int .u64 P) = W6 at *
    clear d9 g9 l9
    --GEN cells
    have d0 := HD6.out.cell (i := 0) rfl
    have d1 := HD6.out.cell (i := 1) rfl
    have d2 := HD6.out.cell (i := 2) rfl
    have d3 := HD6.out.cell (i := 3) rfl
    have d4 := HD6.out.cell (i := 4) rfl
    have d5 := HD6.out.cell (i := 5) rfl
    have d6 := HD6.out.cell (i := 6) rfl
    have d7 := HD6.out.cell (i := 7) rfl
    have d8 := HD6.out.cell (i := 8) rfl
    have d9 := HD6.out.cell (i := 9) rfl
    have d10 := HD6.out.cell (i := 10) rfl
    have d11 := HD6.out.cell (i := 11) rfl
    have d12 := HD6.out.cell (i := 12) rfl
    --END
    --GEN counted
    have e0 := HK6.out.ba.cell (i := 0) rfl
    have f0 := HK6.out.ba.frozen 0
    have e1 := HK6.out.ba.cell (i := 1) rfl
    have f1 := HK6.out.ba.frozen 1
    have e2 := HK6.out.ba.cell (i := 2) rfl
    have f2 := HK6.out.ba.frozen 2
    have e3 := HK6.out.ba.cell (i := 3) rfl
    have f3 := HK6.out.ba.frozen 3
    have e4 := HK6.out.ba.cell (i := 4) rfl
    have f4 := HK6.out.ba.frozen 4
    have e5 := HK6.out.ba.cell (i := 5) rfl
    have f5 := HK6.out.ba.frozen 5
    have e6 := HK6.out.ba.cell (i := 6) rfl
    have f6 := HK6.out.ba.frozen 6
    have e7 := HK6.out.ba.cell (i := 7) rfl
    have f7 := HK6.out.ba.frozen 7
    have e8 := HK6.out.ba.cell (i := 8) rfl
    have f8 := HK6.out.ba.frozen 8
    have e9 := HK6.out.ba.cell (i := 9) rfl
    have f9 := HK6.out.ba.frozen 9
    have e10 := HK6.out.ba.cell (i := 10) rfl
    have f10 := HK6.out.ba.frozen 10
    have e11 := HK6.out.ba.cell (i := 11) rfl
    have f11 := HK6.out.ba.frozen 11
    have e12 := HK6.out.ba.cell (i := 12) rfl
    have f12 := HK6.out.ba.frozen 12
    go_wp2_with fail
    change bodyPost _ _ _ _ _ (stc W6 (w.heap.size + 1) (An.mk 6 (It.mk kx fx vx ex C lx sx ox) P false false false).cells 0)
    exact bodyPost_ret (res_ans (a := An.mk 6 (It.mk kx fx vx ex C lx sx ox) P false false false) rfl (stc_all HK6.out.ba rfl) rfl) rfl ⟨rfl, F3, wp_stc HW6.out HK6.out.na _ _, stp_stc HS6.out (by omega) _ _⟩
    --END
  · have hR : R = (An.of 11, s) := by rw [HR.out]; unfold Wk.cnt; rw [hl]; rfl
    subst hR
    clear HR hl
    --GEN large
    have e0 := HK2.out.ba.cell (i := 0) rfl
    have f0 := HK2.out.ba.frozen 0
    have e1 := HK2.out.ba.cell (i := 1) rfl
    have f1 := HK2.out.ba.frozen 1
    have e2 := HK2.out.ba.cell (i := 2) rfl
    have f2 := HK2.out.ba.frozen 2
    have e3 := HK2.out.ba.cell (i := 3) rfl
    have f3 := HK2.out.ba.frozen 3
    have e4 := HK2.out.ba.cell (i := 4) rfl
    have f4 := HK2.out.ba.frozen 4
    have e5 := HK2.out.ba.cell (i := 5) rfl
    have f5 := HK2.out.ba.frozen 5
    have e6 := HK2.out.ba.cell (i := 6) rfl
    have f6 := HK2.out.ba.frozen 6
    have e7 := HK2.out.ba.cell (i := 7) rfl
    have f7 := HK2.out.ba.frozen 7
    have e8 := HK2.out.ba.cell (i := 8) rfl
    have f8 := HK2.out.ba.frozen 8
    have e9 := HK2.out.ba.cell (i := 9) rfl
    have f9 := HK2.out.ba.frozen 9
    have e10 := HK2.out.ba.cell (i := 10) rfl
    have f10 := HK2.out.ba.frozen 10
    have e11 := HK2.out.ba.cell (i := 11) rfl
    have f11 := HK2.out.ba.frozen 11
    have e12 := HK2.out.ba.cell (i := 12) rfl
    have f12 := HK2.out.ba.frozen 12
    go_wp2_with fail
    change bodyPost _ _ _ _ _ (stc W2 (w.heap.size + 1) (An.of 11).cells 0)
    exact bodyPost_ret (res_ans (a := An.of 11) rfl (stc_all HK2.out.ba rfl) rfl) rfl ⟨rfl, F, wp_stc HW2.out HK2.out.na _ _, stp_stc HS2.out (by omega) _ _⟩
    --END
end
end Go.Proofs.YtpgljahomeebhaaDoor.Md
