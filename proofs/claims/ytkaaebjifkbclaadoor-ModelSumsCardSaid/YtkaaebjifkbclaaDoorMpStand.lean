/-
  The contract of standing: the state as a command at now finds it; its items are its own. Conditions: there are at most four million items.
-/
import Derived.Test.YtkaaebjifkbclaaDoorMpMay
import Derived.Test.YtkaaebjifkbclaaDoorMpMath
import Derived.Test.YtkaaebjifkbclaaDoorModBox
namespace Go.Proofs.YtkaaebjifkbclaaDoor.Md
open Go Go.RowKit Go.Lib

theorem res_st {fn : Func} {R : Nat} (h : fn.results = #[.cell R 25]) {tmps : Array Value} {w : World} {D : Nat} {v : Value} (hv : ∃ a n c, v = .slice a n c) {cas fl : Int} (hd : Blk w D 25 [v, .int .u64 cas, .int .i64 fl]) (h3 : tmps[R]?.getD undef = .pointer (some ⟨D, 0, none⟩)) :
    (results fn tmps).run Tryd.prog w = .ok (.agg #[v, .int .u64 cas, .int .i64 fl]) w := by
  obtain ⟨a, n, c, rfl⟩ := hv
  have r0 := hd.cell (i := 0) rfl
  have r1 := hd.cell (i := 1) rfl
  have r2 := hd.cell (i := 2) rfl
  simp [results, h, h3, go_sem, r0, r1, r2]
/-- The boxes of standing. -/
structure Kst (w0 : World) (P : Nat) (cs cn cr : List Value) (W : World) : Prop where
  s0 : Blk W P 25 cs
  s1 : Blk W (P + 1) 2 cn
  s2 : Blk W (P + 1 + 1) 25 cr
  below : Below w0.heap.size w0 W
  hp : w0.heap.size ≤ P
section
variable {w0 w W W' : World} {P : Nat} {cs cn cr : List Value}
theorem Kst.begin (w : World) (cs cn cr : Array Value) : Kst w w.heap.size cs.toList cn.toList cr.toList (((w.alloc (.cells cs 25)).alloc (.cells cn 2)).alloc (.cells cr 25)) := by
  refine ⟨?_, ?_, ?_, ?_, Nat.le_refl _⟩
  · exact ((Blk.new w cs _).below (abelow _ _)).below (abelow _ _)
  · have := (Blk.new (w.alloc (.cells cs 25)) cn 2).below (abelow _ (.cells cr 25))
    rwa [World.size_alloc] at this
  · have := Blk.new ((w.alloc (.cells cs 25)).alloc (.cells cn 2)) cr 25
    rwa [World.size_alloc, World.size_alloc] at this
  · exact Below.then (Below.then (abelow w _) (abelow _ _)) (abelow _ _)
theorem Kst.step (h : Kst w0 P cs cn cr W) (hb : Below W.heap.size W W') : Kst w0 P cs cn cr W' := ⟨h.s0.below hb, h.s1.below hb, h.s2.below hb, Below.then h.below hb, h.hp⟩
theorem Kst.only {D : Nat → Prop} (h : Kst w0 P cs cn cr W) (ho : Only D W W') (hd : ∀ b, D b → P + 1 + 1 < b) : Kst w0 P cs cn cr W' :=
  ⟨h.s0.only ho (fun e => by have := hd _ e; omega), h.s1.only ho (fun e => by have := hd _ e; omega), h.s2.only ho (fun e => by have := hd _ e; omega), h.below.trans (ho.below h.below.size (fun x hx => by have := hd _ hx; have := h.hp; omega)), h.hp⟩
theorem Kst.set0 (h : Kst w0 P cs cn cr W) (i : Nat) (u : Value) : Kst w0 P (cs.set i u) cn cr (W.setCell ⟨P, i, none⟩ u) :=
  ⟨h.s0.set i u, h.s1.setOther (p := ⟨P, i, none⟩) (by show P + 1 ≠ P; omega) u, h.s2.setOther (p := ⟨P, i, none⟩) (by show P + 1 + 1 ≠ P; omega) u, h.below.setCell h.hp u, h.hp⟩
end
set_option maxRecDepth 100000 in
set_option maxHeartbeats 1000000 in
theorem stand_any {v : Value} {l : List It} {w : World} (cas : Nat) (fl now : Int) (hI : Its w v l) (hlen : l.length ≤ 4194304) :
    Calls Tryd.prog 31 #[.agg #[v, .int .u64 cas, .int .i64 fl], .int .i64 now] w fun e w' => ∃ v', e = .returned (msv v' (live ⟨l, cas, fl⟩ now).cas (live ⟨l, cas, fl⟩ now).fl) ∧ Rw (fun b => w.heap.size ≤ b ∧ b < w'.heap.size) w' v' (live ⟨l, cas, fl⟩ now).its ∧ Below w.heap.size w w' := by
  obtain ⟨a, c, rfl⟩ := hI.form
  obtain ⟨P, hP⟩ : ∃ P, P = w.heap.size := ⟨_, rfl⟩
  obtain ⟨W1, h1⟩ : ∃ W1, ((w.alloc (.cells #[.slice a l.length c, .int .u64 cas, .int .i64 fl] 25)).alloc (.cells #[.int .i64 now] 2)).alloc (.cells #[.slice none 0 0, .int .u64 0, .int .i64 0] 25) = W1 := ⟨_, rfl⟩
  have HK : Hid (Kst w P [.slice a l.length c, .int .u64 cas, .int .i64 fl] [.int .i64 now] [.slice none 0 0, .int .u64 0, .int .i64 0] W1) := hid (by rw [← h1, hP]; exact Kst.begin w #[.slice a l.length c, .int .u64 cas, .int .i64 fl] #[.int .i64 now] #[.slice none 0 0, .int .u64 0, .int .i64 0])
  have HI := hid (hI.below HK.out.below)
  have hcl := clone_any HI.out hlen
  rw [eq_comm] at hP
  by_cases hc : fl ≠ 0 ∧ fl ≤ now
  · have HL : Hid (live ⟨l, cas, fl⟩ now = ⟨[], cas, 0⟩) := hid (by unfold live; rw [if_pos hc])
    rw [HL.out]
    obtain ⟨hc1, hc2⟩ := hc
    have hc1' : (fl == 0) = false := beq_eq_false_iff_ne.2 hc1
    clear hI hcl
    generalize l.length = N at *
    go_enter Tryd.func31, Tryd.ntmps31
    go_upto_region 1 with fail
    clear h1
    have e1 := HK.out.s0.cell (i := 1) rfl
    have e2 := HK.out.s0.cell (i := 2) rfl
    have e3 := HK.out.s1.cell (i := 0) rfl
    have g0 := HK.out.s2.cell (i := 0) rfl
    have g1 := HK.out.s2.cell (i := 1) rfl
    have g2 := HK.out.s2.cell (i := 2) rfl
    have f0 := HK.out.s2.frozen 0
    have f1 := HK.out.s2.frozen 1
    have f2 := HK.out.s2.frozen 2
    go_wp2_with fail
    change bodyPost _ _ _ _ _ (stc W1 (P + 1 + 1) [.slice none 0 0, .int .u64 cas, .int .i64 0] 0)
    exact bodyPost_ret (res_st rfl ⟨none, 0, 0, rfl⟩ (stc_all HK.out.s2 rfl) rfl) rfl ⟨.slice none 0 0, rfl, rw_nil _ _, stc_below (by have := HK.out.hp; omega) _ _ _ HK.out.below⟩
  · have HL : Hid (live ⟨l, cas, fl⟩ now = ⟨l.filter (fun x => !gone now x), cas, fl⟩) := hid (by unfold live; rw [if_neg hc])
    rw [HL.out]
    have HN := hid hlen
    have hz : fl = 0 ∨ (¬ fl = 0 ∧ (fl == 0) = false ∧ ¬ fl ≤ now) := by
      by_cases z : fl = 0
      · exact .inl z
      · exact .inr ⟨z, beq_eq_false_iff_ne.2 z, fun q => hc ⟨z, q⟩⟩
    clear hI hc
    obtain ⟨m, hm⟩ : ∃ m, m = l.filter (fun x => !gone now x) := ⟨_, rfl⟩
    rw [← hm]
    have HM := hid hm
    have hlm : Hid (m.length ≤ l.length) := hid (by rw [hm]; exact List.length_filter_le _ _)
    clear hm hlen
    have e0 := HK.out.s0.cell (i := 0) rfl
    have e1 := HK.out.s0.cell (i := 1) rfl
    have e2 := HK.out.s0.cell (i := 2) rfl
    have e3 := HK.out.s1.cell (i := 0) rfl
    obtain ⟨N, hNn⟩ : ∃ N, l.length = N := ⟨_, rfl⟩
    have HNn := hid hNn
    rw [hNn] at hcl h1 e0 ⊢
    clear hNn
    go_enter Tryd.func31, Tryd.ntmps31
    go_upto_region 1 with fail
    clear h1
    have HS : Hid (∀ W, Below W1.heap.size W1 W → W.cell? ⟨P + 1, 0, none⟩ = some (.int .i64 now)) := hid (fun W hW => (HK.out.s1.below hW).cell (i := 0) rfl)
    have hP1 := hid HK.out.s2.lt
    rcases hz with rfl | ⟨hz0, hz, hz2⟩
    all_goals
      go_wp2_with fail
      refine hcl.mono ?_
      rintro e W2 ⟨v2, rfl, r2, b2⟩
      have hdf := delfunc_any 46 (.pointer (some ⟨P + 1, 0, none⟩)) (gone now) r2 (fun b hb => hb.2) HN.out (fun W x hW => fn_gone x now (P + 1) W (((HK.out.step b2).s1.only hW (fun e => by have := hP1.out; have := e.1; omega)).cell (i := 0) rfl)) (enters_of Tryd.func46 (by kernel_rfl) rfl)
      rw [← HM.out] at hdf
      have HK2 := hid (HK.out.step b2)
      have HB2 := hid b2
      clear r2 b2 hcl
      go_wp2_with fail
      refine hdf.mono ?_
      rintro e W3 ⟨v3, rfl, r3, o3⟩
      have HK3 := hid (HK2.out.only o3 (fun b hb => by have := hP1.out; have := hb.1; omega))
      have HR3 := hid (r3.mono (H := fun b => w.heap.size ≤ b ∧ b < W3.heap.size ∧ P + 1 + 1 < b) (fun b hb => ⟨by have := HK.out.hp; have := hP1.out; have := hb.1; omega, Nat.lt_of_lt_of_le hb.2 o3.size, by have := hP1.out; have := hb.1; omega⟩))
      obtain ⟨a3, c3, rfl⟩ := r3.form
      clear r3 o3 hdf HK HK2 HB2 HS e0 e1 e2 e3
      have e0 := HK3.out.s0.cell (i := 0) rfl
      have f0 := HK3.out.s0.frozen 0
      have HK4 := hid (HK3.out.set0 0 (.slice a3 m.length c3))
      have HR4 : Hid (Rw (fun b => w.heap.size ≤ b ∧ b < W3.heap.size ∧ P + 1 + 1 < b) (W3.setCell ⟨P, 0, none⟩ (.slice a3 m.length c3)) (.slice a3 m.length c3) m) := hid (HR3.out.only (D := fun b => b = P) (stc_only [.slice a3 m.length c3] 0 W3) (fun b hb e => by have := hb.2.2; omega))
      have hsz : Hid ((W3.setCell ⟨P, 0, none⟩ (.slice a3 m.length c3)).heap.size = W3.heap.size) := hid (by simp [World.setCell])
      generalize m.length = M at *
      clear HK3 HR3
      go_upto_region 4 with fail
      generalize W3.setCell ⟨P, 0, none⟩ (.slice a3 M c3) = W4 at *
      clear e0 f0
      have e0 := HK4.out.s0.cell (i := 0) rfl
      have e1 := HK4.out.s0.cell (i := 1) rfl
      have e2 := HK4.out.s0.cell (i := 2) rfl
      have g0 := HK4.out.s2.cell (i := 0) rfl
      have g1 := HK4.out.s2.cell (i := 1) rfl
      have g2 := HK4.out.s2.cell (i := 2) rfl
      have f0 := HK4.out.s2.frozen 0
      have f1 := HK4.out.s2.frozen 1
      have f2 := HK4.out.s2.frozen 2
      go_wp2_with fail
      change bodyPost _ _ _ _ _ (stc W4 (P + 1 + 1) [.slice a3 M c3, .int .u64 cas, .int .i64 _] 0)
      refine bodyPost_ret (res_st rfl ⟨a3, M, c3, rfl⟩ (stc_all HK4.out.s2 rfl) rfl) rfl ⟨.slice a3 M c3, rfl, ?_, stc_below (by have := HK4.out.hp; omega) _ _ _ HK4.out.below⟩
      have ho := fun (z : Int) => stc_only (b := P + 1 + 1) [.slice a3 M c3, .int .u64 cas, .int .i64 z] 0 W4
      exact (HR4.out.only (ho _) (fun b hb e => by have := hb.2.2; omega)).mono (fun b hb => ⟨hb.1, Nat.lt_of_lt_of_le (by rw [hsz.out]; exact hb.2.1) (ho _).size⟩)
end Go.Proofs.YtkaaebjifkbclaaDoor.Md
