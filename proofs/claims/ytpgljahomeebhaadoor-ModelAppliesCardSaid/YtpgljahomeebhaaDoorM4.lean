/-
  The contract of standing: the state as a command at now finds it; its items are its own. Conditions: there are at most four million items.
  The contract of Apply: what a command makes of a state, and what it is answered. Conditions: the items stand in order, and are not over great; the numbers are in their types' ranges; the library's variables are as they begin.
-/
import Derived.Test.YtpgljahomeebhaaDoorM2
import Derived.Test.YtpgljahomeebhaaDoorMpMath
import Derived.Test.YtpgljahomeebhaaDoorModBox
namespace Go.Proofs.YtpgljahomeebhaaDoor.Md
open Go Go.RowKit Go.Lib

theorem res_st {fn : Func} {R : Nat} (h : fn.results = #[.cell R 25]) {tmps : Array Value} {w : World} {D : Nat} {v : Value} (hv : ∃ a n c, v = .slice a n c) {cas fl : Int} (hd : Blk w D 25 [v, .int .u64 cas, .int .i64 fl]) (h3 : tmps[R]?.getD undef = .pointer (some ⟨D, 0, none⟩)) :
    (results fn tmps).run Tryd.prog w = .ok (.agg #[v, .int .u64 cas, .int .i64 fl]) w := by
  obtain ⟨a, n, c, rfl⟩ := hv
  have r0 := hd.cell (i := 0) rfl
  have r1 := hd.cell (i := 1) rfl
  have r2 := hd.cell (i := 2) rfl
  simp [results, h, h3, go_sem, r0, r1, r2]
/-- The boxes of standing. -/
structure Kst (w0 : World) (P : Nat) (cs cn cr : List Value) (W : World) : Prop where
  s0 : Blk W P 25 cs
  s1 : Blk W (P + 1) 2 cn
  s2 : Blk W (P + 1 + 1) 25 cr
  below : Below w0.heap.size w0 W
  hp : w0.heap.size ≤ P
section
variable {w0 w W W' : World} {P : Nat} {cs cn cr : List Value}
theorem Kst.begin (w : World) (cs cn cr : Array Value) : Kst w w.heap.size cs.toList cn.toList cr.toList (((w.alloc (.cells cs 25)).alloc (.cells cn 2)).alloc (.cells cr 25)) := by
  refine ⟨?_, ?_, ?_, ?_, Nat.le_refl _⟩
  · exact ((Blk.new w cs _).below (abelow _ _)).below (abelow _ _)
  · have := (Blk.new (w.alloc (.cells cs 25)) cn 2).below (abelow _ (.cells cr 25))
    rwa [World.size_alloc] at this
  · have := Blk.new ((w.alloc (.cells cs 25)).alloc (.cells cn 2)) cr 25
    rwa [World.size_alloc, World.size_alloc] at this
  · exact Below.then (Below.then (abelow w _) (abelow _ _)) (abelow _ _)
theorem Kst.step (h : Kst w0 P cs cn cr W) (hb : Below W.heap.size W W') : Kst w0 P cs cn cr W' := ⟨h.s0.below hb, h.s1.below hb, h.s2.below hb, Below.then h.below hb, h.hp⟩
theorem Kst.only {D : Nat → Prop} (h : Kst w0 P cs cn cr W) (ho : Only D W W') (hd : ∀ b, D b → P + 1 + 1 < b) : Kst w0 P cs cn cr W' :=
  ⟨h.s0.only ho (fun e => by have := hd _ e; omega), h.s1.only ho (fun e => by have := hd _ e; omega), h.s2.only ho (fun e => by have := hd _ e; omega), h.below.trans (ho.below h.below.size (fun x hx => by have := hd _ hx; have := h.hp; omega)), h.hp⟩
theorem Kst.set0 (h : Kst w0 P cs cn cr W) (i : Nat) (u : Value) : Kst w0 P (cs.set i u) cn cr (W.setCell ⟨P, i, none⟩ u) :=
  ⟨h.s0.set i u, h.s1.setOther (p := ⟨P, i, none⟩) (by show P + 1 ≠ P; omega) u, h.s2.setOther (p := ⟨P, i, none⟩) (by show P + 1 + 1 ≠ P; omega) u, h.below.setCell h.hp u, h.hp⟩
end
set_option maxRecDepth 100000 in
set_option maxHeartbeats 1000000 in
theorem stand_any {v : Value} {l : List It} {w : World} (cas : Nat) (fl now : Int) (hI : Its w v l) (hlen : l.length ≤ 4194304) :
    Calls Tryd.prog 31 #[.agg #[v, .int .u64 cas, .int .i64 fl], .int .i64 now] w fun e w' => ∃ v', e = .returned (msv v' (live ⟨l, cas, fl⟩ now).cas (live ⟨l, cas, fl⟩ now).fl) ∧ Rw (fun b => w.heap.size ≤ b ∧ b < w'.heap.size) w' v' (live ⟨l, cas, fl⟩ now).its ∧ Below w.heap.size w w' := by
  obtain ⟨a, c, rfl⟩ := hI.form
  obtain ⟨P, hP⟩ : ∃ P, P = w.heap.size := ⟨_, rfl⟩
  obtain ⟨W1, h1⟩ : ∃ W1, ((w.alloc (.cells #[.slice a l.length c, .int .u64 cas, .int .i64 fl] 25)).alloc (.cells #[.int .i64 now] 2)).alloc (.cells #[.slice none 0 0, .int .u64 0, .int .i64 0] 25) = W1 := ⟨_, rfl⟩
  have HK : Hid (Kst w P [.slice a l.length c, .int .u64 cas, .int .i64 fl] [.int .i64 now] [.slice none 0 0, .int .u64 0, .int .i64 0] W1) := hid (by rw [← h1, hP]; exact Kst.begin w #[.slice a l.length c, .int .u64 cas, .int .i64 fl] #[.int .i64 now] #[.slice none 0 0, .int .u64 0, .int .i64 0])
  have HI := hid (hI.below HK.out.below)
  have hcl := clone_any HI.out hlen
  rw [eq_comm] at hP
  by_cases hc : fl ≠ 0 ∧ fl ≤ now
  · have HL : Hid (live ⟨l, cas, fl⟩ now = ⟨[], cas, 0⟩) := hid (by unfold live; rw [if_pos hc])
    rw [HL.out]
    obtain ⟨hc1, hc2⟩ := hc
    have hc1' : (fl == 0) = false := beq_eq_false_iff_ne.2 hc1
    clear hI hcl
    generalize l.length = N at *
    go_enter Tryd.func31, Tryd.ntmps31
    go_upto_region 1 with fail
    clear h1
    have e1 := HK.out.s0.cell (i := 1) rfl
    have e2 := HK.out.s0.cell (i := 2) rfl
    have e3 := HK.out.s1.cell (i := 0) rfl
    have g0 := HK.out.s2.cell (i := 0) rfl
    have g1 := HK.out.s2.cell (i := 1) rfl
    have g2 := HK.out.s2.cell (i := 2) rfl
    have f0 := HK.out.s2.frozen 0
    have f1 := HK.out.s2.frozen 1
    have f2 := HK.out.s2.frozen 2
    go_wp2_with fail
    change bodyPost _ _ _ _ _ (stc W1 (P + 1 + 1) [.slice none 0 0, .int .u64 cas, .int .i64 0] 0)
    exact bodyPost_ret (res_st rfl ⟨none, 0, 0, rfl⟩ (stc_all HK.out.s2 rfl) rfl) rfl ⟨.slice none 0 0, rfl, rw_nil _ _, stc_below (by have := HK.out.hp; omega) _ _ _ HK.out.below⟩
  · have HL : Hid (live ⟨l, cas, fl⟩ now = ⟨l.filter (fun x => !gone now x), cas, fl⟩) := hid (by unfold live; rw [if_neg hc])
    rw [HL.out]
    have HN := hid hlen
    have hz : fl = 0 ∨ (¬ fl = 0 ∧ (fl == 0) = false ∧ ¬ fl ≤ now) := by
      by_cases z : fl = 0
      · exact .inl z
      · exact .inr ⟨z, beq_eq_false_iff_ne.2 z, fun q => hc ⟨z, q⟩⟩
    clear hI hc
    obtain ⟨m, hm⟩ : ∃ m, m = l.filter (fun x => !gone now x) := ⟨_, rfl⟩
    rw [← hm]
    have HM := hid hm
    have hlm : Hid (m.length ≤ l.length) := hid (by rw [hm]; exact List.length_filter_le _ _)
    clear hm hlen
    have e0 := HK.out.s0.cell (i := 0) rfl
    have e1 := HK.out.s0.cell (i := 1) rfl
    have e2 := HK.out.s0.cell (i := 2) rfl
    have e3 := HK.out.s1.cell (i := 0) rfl
    obtain ⟨N, hNn⟩ : ∃ N, l.length = N := ⟨_, rfl⟩
    have HNn := hid hNn
    rw [hNn] at hcl h1 e0 ⊢
    clear hNn
    go_enter Tryd.func31, Tryd.ntmps31
    go_upto_region 1 with fail
    clear h1
    have HS : Hid (∀ W, Below W1.heap.size W1 W → W.cell? ⟨P + 1, 0, none⟩ = some (.int .i64 now)) := hid (fun W hW => (HK.out.s1.below hW).cell (i := 0) rfl)
    have hP1 := hid HK.out.s2.lt
    rcases hz with rfl | ⟨hz0, hz, hz2⟩
    all_goals
      go_wp2_with fail
      refine hcl.mono ?_
      rintro e W2 ⟨v2, rfl, r2, b2⟩
      have hdf := delfunc_any 46 (.pointer (some ⟨P + 1, 0, none⟩)) (gone now) r2 (fun b hb => hb.2) HN.out (fun W x hW => fn_gone x now (P + 1) W (((HK.out.step b2).s1.only hW (fun e => by have := hP1.out; have := e.1; omega)).cell (i := 0) rfl)) (enters_of Tryd.func46 (by kernel_rfl) rfl)
      rw [← HM.out] at hdf
      have HK2 := hid (HK.out.step b2)
      have HB2 := hid b2
      clear r2 b2 hcl
      go_wp2_with fail
      refine hdf.mono ?_
      rintro e W3 ⟨v3, rfl, r3, o3⟩
      have HK3 := hid (HK2.out.only o3 (fun b hb => by have := hP1.out; have := hb.1; omega))
      have HR3 := hid (r3.mono (H := fun b => w.heap.size ≤ b ∧ b < W3.heap.size ∧ P + 1 + 1 < b) (fun b hb => ⟨by have := HK.out.hp; have := hP1.out; have := hb.1; omega, Nat.lt_of_lt_of_le hb.2 o3.size, by have := hP1.out; have := hb.1; omega⟩))
      obtain ⟨a3, c3, rfl⟩ := r3.form
      clear r3 o3 hdf HK HK2 HB2 HS e0 e1 e2 e3
      have e0 := HK3.out.s0.cell (i := 0) rfl
      have f0 := HK3.out.s0.frozen 0
      have HK4 := hid (HK3.out.set0 0 (.slice a3 m.length c3))
      have HR4 : Hid (Rw (fun b => w.heap.size ≤ b ∧ b < W3.heap.size ∧ P + 1 + 1 < b) (W3.setCell ⟨P, 0, none⟩ (.slice a3 m.length c3)) (.slice a3 m.length c3) m) := hid (HR3.out.only (D := fun b => b = P) (stc_only [.slice a3 m.length c3] 0 W3) (fun b hb e => by have := hb.2.2; omega))
      have hsz : Hid ((W3.setCell ⟨P, 0, none⟩ (.slice a3 m.length c3)).heap.size = W3.heap.size) := hid (by simp [World.setCell])
      generalize m.length = M at *
      clear HK3 HR3
      go_upto_region 4 with fail
      generalize W3.setCell ⟨P, 0, none⟩ (.slice a3 M c3) = W4 at *
      clear e0 f0
      have e0 := HK4.out.s0.cell (i := 0) rfl
      have e1 := HK4.out.s0.cell (i := 1) rfl
      have e2 := HK4.out.s0.cell (i := 2) rfl
      have g0 := HK4.out.s2.cell (i := 0) rfl
      have g1 := HK4.out.s2.cell (i := 1) rfl
      have g2 := HK4.out.s2.cell (i := 2) rfl
      have f0 := HK4.out.s2.frozen 0
      have f1 := HK4.out.s2.frozen 1
      have f2 := HK4.out.s2.frozen 2
      go_wp2_with fail
      change bodyPost _ _ _ _ _ (stc W4 (P + 1 + 1) [.slice a3 M c3, .int .u64 cas, .int .i64 _] 0)
      refine bodyPost_ret (res_st rfl ⟨a3, M, c3, rfl⟩ (stc_all HK4.out.s2 rfl) rfl) rfl ⟨.slice a3 M c3, rfl, ?_, stc_below (by have := HK4.out.hp; omega) _ _ _ HK4.out.below⟩
      have ho := fun (z : Int) => stc_only (b := P + 1 + 1) [.slice a3 M c3, .int .u64 cas, .int .i64 z] 0 W4
      exact (HR4.out.only (ho _) (fun b hb e => by have := hb.2.2; omega)).mono (fun b hb => ⟨hb.1, Nat.lt_of_lt_of_le (by rw [hsz.out]; exact hb.2.1) (ho _).size⟩)
end Go.Proofs.YtpgljahomeebhaaDoor.Md
namespace Go.Proofs.YtpgljahomeebhaaDoor.Md
open Go Go.RowKit Go.Lib

/-- The boxes of Apply, and what lies behind them. -/
structure Kap (w0 : World) (P : Nat) (F : Nat → Prop) (cs cc cr ca : List Value) (W : World) : Prop where
  a0 : Blk W P 25 cs
  a1 : Blk W (P + 1) 28 cc
  a2 : Blk W (P + 1 + 1) 25 cr
  a3 : Blk W (P + 1 + 1 + 1) 35 ca
  below : Below w0.heap.size w0 W
  hp : w0.heap.size ≤ P
  nf : ∀ b, F b → P + 1 + 1 + 1 < b
section
variable {w0 w W W' : World} {P : Nat} {F F' : Nat → Prop} {cs cc cr ca : List Value}
theorem Kap.begin (w : World) (cs cc cr ca : Array Value) : Kap w w.heap.size (fun _ => False) cs.toList cc.toList cr.toList ca.toList ((((w.alloc (.cells cs 25)).alloc (.cells cc 28)).alloc (.cells cr 25)).alloc (.cells ca 35)) := by
  refine ⟨?_, ?_, ?_, ?_, ?_, Nat.le_refl _, fun _ h => h.elim⟩
  · exact (((Blk.new w cs _).below (abelow _ _)).below (abelow _ _)).below (abelow _ _)
  · have := ((Blk.new (w.alloc (.cells cs 25)) cc 28).below (abelow _ (.cells cr 25))).below (abelow _ (.cells ca 35))
    rwa [World.size_alloc] at this
  · have := (Blk.new ((w.alloc (.cells cs 25)).alloc (.cells cc 28)) cr 25).below (abelow _ (.cells ca 35))
    rwa [World.size_alloc, World.size_alloc] at this
  · have := Blk.new (((w.alloc (.cells cs 25)).alloc (.cells cc 28)).alloc (.cells cr 25)) ca 35
    rwa [World.size_alloc, World.size_alloc, World.size_alloc] at this
  · exact Below.then (Below.then (Below.then (abelow w _) (abelow _ _)) (abelow _ _)) (abelow _ _)
theorem Kap.step (h : Kap w0 P F cs cc cr ca W) (hb : Below W.heap.size W W') : Kap w0 P F cs cc cr ca W' := ⟨h.a0.below hb, h.a1.below hb, h.a2.below hb, h.a3.below hb, Below.then h.below hb, h.hp, h.nf⟩
theorem Kap.foot (h : Kap w0 P F cs cc cr ca W) (hf : ∀ b, F' b → P + 1 + 1 + 1 < b) : Kap w0 P F' cs cc cr ca W := ⟨h.a0, h.a1, h.a2, h.a3, h.below, h.hp, hf⟩
theorem Kap.stp (h : Kap w0 P F cs cc cr ca W) (k : Stp F F' W W') : Kap w0 P F' cs cc cr ca W' :=
  ⟨h.a0.only k.only (fun e => by have := h.nf _ e; omega), h.a1.only k.only (fun e => by have := h.nf _ e; omega), h.a2.only k.only (fun e => by have := h.nf _ e; omega), h.a3.only k.only (fun e => by have := h.nf _ e; omega),
    h.below.trans (k.only.below h.below.size (fun x hx => by have := h.nf _ hx; have := h.hp; omega)), h.hp, fun b hb => (k.foot b hb).elim (h.nf b) (fun e => by have := h.a3.lt; omega)⟩
theorem Kap.own (h : Kap w0 P F cs cc cr ca W) {b : Nat} (hb : P + 1 + 1 + 1 < b) (vs : List Value) (i : Nat) : Kap w0 P F cs cc cr ca (stc W b vs i) :=
  ⟨stc_other (by omega) vs i W h.a0, stc_other (by omega) vs i W h.a1, stc_other (by omega) vs i W h.a2, stc_other (by omega) vs i W h.a3, stc_below (by have := h.hp; omega) vs i W h.below, h.hp, h.nf⟩
theorem Kap.st2 (h : Kap w0 P F cs cc cr ca W) {vs : List Value} (hl : vs.length = cr.length) : Kap w0 P F cs cc vs ca (stc W (P + 1 + 1) vs 0) :=
  ⟨stc_other (by omega) vs 0 W h.a0, stc_other (by omega) vs 0 W h.a1, stc_all h.a2 hl, stc_other (by omega) vs 0 W h.a3, stc_below (by have := h.hp; omega) vs 0 W h.below, h.hp, h.nf⟩
theorem Kap.st3 (h : Kap w0 P F cs cc cr ca W) {vs : List Value} (hl : vs.length = ca.length) : Kap w0 P F cs cc cr vs (stc W (P + 1 + 1 + 1) vs 0) :=
  ⟨stc_other (by omega) vs 0 W h.a0, stc_other (by omega) vs 0 W h.a1, stc_other (by omega) vs 0 W h.a2, stc_all h.a3 hl, stc_below (by have := h.hp; omega) vs 0 W h.below, h.hp, h.nf⟩
end
theorem stc_app (b : Nat) : ∀ (l m : List Value) (i : Nat) (W : World), stc W b (l ++ m) i = stc (stc W b l i) b m (i + l.length)
  | [], _, _, _ => rfl
  | v :: l, m, i, W => by
    show stc (W.setCell ⟨b, i, none⟩ v) b (l ++ m) (i + 1) = stc (stc (W.setCell ⟨b, i, none⟩ v) b l (i + 1)) b m (i + (l.length + 1))
    rw [stc_app b l m (i + 1), show i + (l.length + 1) = i + 1 + l.length by omega]
theorem stc3 (b : Nat) (v0 v1 v2 v3 v4 v5 v6 v7 v8 v9 u0 u1 u2 u3 u4 u5 u6 u7 u8 u9 : Value) (m : List Value) (W : World) :
    stc (stc (stc W b [v0, v1, v2, v3, v4, v5, v6, v7, v8, v9] 0) b [u0, u1, u2, u3, u4, u5, u6, u7, u8, u9] 10) b m 20 = stc W b ([v0, v1, v2, v3, v4, v5, v6, v7, v8, v9] ++ ([u0, u1, u2, u3, u4, u5, u6, u7, u8, u9] ++ m)) 0 := by
  rw [stc_app, stc_app]; rfl
/-- What is worked on, done, is what Apply makes. -/
theorem run_apply {l ls : List It} {cas lc : Nat} {fl lf now most ix : Int} {c : Cm} {x : It} {o : Option It} (hf : fine now c = true) (hL : (⟨ls, lc, lf⟩ : Ms) = live ⟨l, cas, fl⟩ now) (h : (⟨ls, lc, lf, c, now, most, ix, x⟩ : Wk).At o)
    (hl : ∀ x, o = some x → x.exp = 0 ∨ now < x.exp) : apply ⟨l, cas, fl⟩ now c most = (⟨(⟨ls, lc, lf, c, now, most, ix, x⟩ : Wk).run.2.l, (⟨ls, lc, lf, c, now, most, ix, x⟩ : Wk).run.2.cas, (⟨ls, lc, lf, c, now, most, ix, x⟩ : Wk).run.2.fl⟩, (⟨ls, lc, lf, c, now, most, ix, x⟩ : Wk).run.1) := by
  obtain ⟨_, _, _, m0, m4, _⟩ := fine_parts hf
  unfold apply
  rw [if_neg (by rw [hf]; decide), ← hL]
  by_cases h6 : c.op = 6
  · rw [if_pos h6]
    have hr : (⟨ls, lc, lf, c, now, most, ix, x⟩ : Wk).run = (An.of 10, if moment now c.exp ≤ now then ⟨[], lc, 0, c, now, most, ix, x⟩ else ⟨ls, lc, moment now c.exp, c, now, most, ix, x⟩) := by
      unfold Wk.run
      rw [if_neg (show ¬ (⟨ls, lc, lf, c, now, most, ix, x⟩ : Wk).c.op = 2 from fun e => by have e : c.op = 2 := e; omega), if_pos (show (⟨ls, lc, lf, c, now, most, ix, x⟩ : Wk).c.op = 6 from h6)]
      rfl
    rw [hr]
    by_cases hm : moment now c.exp ≤ now
    · rw [if_neg (by omega), if_pos hm]
    · rw [if_pos (by omega), if_neg hm]
  · rw [if_neg h6]
    obtain ⟨r1, r2, r3, r4⟩ := run_is h hl m0 m4 h6
    have ho := h.is
    change o = find ls c.key at ho
    show ((⟨(core now c most lc (find ls c.key)).e.on ls c.key, (core now c most lc (find ls c.key)).cas, lf⟩ : Ms), (core now c most lc (find ls c.key)).a) = _
    rw [← ho]
    rw [r1, r2, r3, r4]
set_option maxRecDepth 100000 in
set_option maxHeartbeats 2000000 in
theorem apply_no {l : List It} {a : Option Addr} {ca : Nat} {w : World} (cas : Nat) (fl now : Int) (c : Cm) (most : Int) (hf : fine now c = false) :
    Calls Tryd.prog 17 #[.agg #[.slice a l.length ca, .int .u64 cas, .int .i64 fl], .int .i64 now, c.v, .int .i64 most] w fun e w' => e = .returned (.tuple #[msv (.slice none 0 0) 0 0, (An.of 0).v]) ∧ Below w.heap.size w w' := by
  have hm : ∀ W, Calls Tryd.prog 30 #[.agg #[.int .i64 c.op, .int .i64 c.mode, .string c.key, .string c.val, .int .u32 c.flags, .int .i64 c.exp, .bool c.hasExp, .int .u64 c.cas, .bool c.hasCas, .int .u64 c.delta, .int .u64 c.init, .bool c.down, .bool c.viv, .int .i64 c.vive, .int .i64 c.rcc, .bool c.inv]] W fun e w' => e = .returned (.bool (may c)) ∧ Below W.heap.size W w' := fun W => may_any c W
  change Calls Tryd.prog 17 #[.agg #[.slice a l.length ca, .int .u64 cas, .int .i64 fl], .int .i64 now, .agg #[.int .i64 c.op, .int .i64 c.mode, .string c.key, .string c.val, .int .u32 c.flags, .int .i64 c.exp, .bool c.hasExp, .int .u64 c.cas, .bool c.hasCas, .int .u64 c.delta, .int .u64 c.init, .bool c.down, .bool c.viv, .int .i64 c.vive, .int .i64 c.rcc, .bool c.inv], .int .i64 most] w _
  obtain ⟨P, hP⟩ : ∃ P, P = w.heap.size := ⟨_, rfl⟩
  obtain ⟨W1, h1⟩ : ∃ W1, (((w.alloc (.cells #[.slice a l.length ca, .int .u64 cas, .int .i64 fl] 25)).alloc (.cells #[.int .i64 c.op, .int .i64 c.mode, .string c.key, .string c.val, .int .u32 c.flags, .int .i64 c.exp, .bool c.hasExp, .int .u64 c.cas, .bool c.hasCas, .int .u64 c.delta, .int .u64 c.init, .bool c.down, .bool c.viv, .int .i64 c.vive, .int .i64 c.rcc, .bool c.inv] 28)).alloc (.cells #[.slice none 0 0, .int .u64 0, .int .i64 0] 25)).alloc (.cells #[.int .i64 0, .string ⟨#[]⟩, .int .u32 0, .string ⟨#[]⟩, .int .i64 0, .int .u64 0, .int .i64 0, .bool false, .bool false, .int .u64 0, .bool false, .bool false, .bool false] 35) = W1 := ⟨_, rfl⟩
  have HK : Hid (Kap w P (fun _ => False) [.slice a l.length ca, .int .u64 cas, .int .i64 fl] [.int .i64 c.op, .int .i64 c.mode, .string c.key, .string c.val, .int .u32 c.flags, .int .i64 c.exp, .bool c.hasExp, .int .u64 c.cas, .bool c.hasCas, .int .u64 c.delta, .int .u64 c.init, .bool c.down, .bool c.viv, .int .i64 c.vive, .int .i64 c.rcc, .bool c.inv] [.slice none 0 0, .int .u64 0, .int .i64 0] [.int .i64 0, .string ⟨#[]⟩, .int .u32 0, .string ⟨#[]⟩, .int .i64 0, .int .u64 0, .int .i64 0, .bool false, .bool false, .int .u64 0, .bool false, .bool false, .bool false] W1) := hid (by rw [← h1, hP]; exact Kap.begin w #[.slice a l.length ca, .int .u64 cas, .int .i64 fl] #[.int .i64 c.op, .int .i64 c.mode, .string c.key, .string c.val, .int .u32 c.flags, .int .i64 c.exp, .bool c.hasExp, .int .u64 c.cas, .bool c.hasCas, .int .u64 c.delta, .int .u64 c.init, .bool c.down, .bool c.viv, .int .i64 c.vive, .int .i64 c.rcc, .bool c.inv] #[.slice none 0 0, .int .u64 0, .int .i64 0] #[.int .i64 0, .string ⟨#[]⟩, .int .u32 0, .string ⟨#[]⟩, .int .i64 0, .int .u64 0, .int .i64 0, .bool false, .bool false, .int .u64 0, .bool false, .bool false, .bool false])
  rw [eq_comm] at hP
  generalize l.length = N at *
  have hc : now < 1 ∨ (¬ now < 1 ∧ 1099511627776 < now) ∨ (¬ now < 1 ∧ ¬ 1099511627776 < now ∧ may c = false) := by
    by_cases c1 : now < 1
    · exact .inl c1
    · by_cases c2 : 1099511627776 < now
      · exact .inr (.inl ⟨c1, c2⟩)
      · refine .inr (.inr ⟨c1, c2, ?_⟩)
        unfold fine at hf
        rw [decide_eq_true (show 1 ≤ now by omega), decide_eq_true (show now ≤ 1099511627776 by omega)] at hf
        simpa using hf
  clear hf
  rcases hc with c1 | ⟨c1, c2⟩ | ⟨c1, c2, c3⟩
  rotate_left 2
  · rw [c3] at hm
    clear c3
    have k0 := HK.out.a1.cell (i := 0) rfl
    have k1 := HK.out.a1.cell (i := 1) rfl
    have k2 := HK.out.a1.cell (i := 2) rfl
    have k3 := HK.out.a1.cell (i := 3) rfl
    have k4 := HK.out.a1.cell (i := 4) rfl
    have k5 := HK.out.a1.cell (i := 5) rfl
    have k6 := HK.out.a1.cell (i := 6) rfl
    have k7 := HK.out.a1.cell (i := 7) rfl
    have k8 := HK.out.a1.cell (i := 8) rfl
    have k9 := HK.out.a1.cell (i := 9) rfl
    have k10 := HK.out.a1.cell (i := 10) rfl
    have k11 := HK.out.a1.cell (i := 11) rfl
    have k12 := HK.out.a1.cell (i := 12) rfl
    have k13 := HK.out.a1.cell (i := 13) rfl
    have k14 := HK.out.a1.cell (i := 14) rfl
    have k15 := HK.out.a1.cell (i := 15) rfl
    go_enter Tryd.func17, Tryd.ntmps17
    go_upto_region 1 with fail
    clear h1
    go_wp2_with fail
    refine (hm W1).mono ?_
    rintro e W2 ⟨rfl, b2⟩
    have HK2 := hid (HK.out.step b2)
    clear b2 hm HK k0 k1 k2 k3 k4 k5 k6 k7 k8 k9 k10 k11 k12 k13 k14 k15
    go_upto_region 2 with fail
    have r0 := HK2.out.a2.cell (i := 0) rfl
    have f0 := HK2.out.a2.frozen 0
    have r1 := HK2.out.a2.cell (i := 1) rfl
    have f1 := HK2.out.a2.frozen 1
    have r2 := HK2.out.a2.cell (i := 2) rfl
    have f2 := HK2.out.a2.frozen 2
    have e0 := HK2.out.a3.cell (i := 0) rfl
    have g0 := HK2.out.a3.frozen 0
    have e1 := HK2.out.a3.cell (i := 1) rfl
    have g1 := HK2.out.a3.frozen 1
    have e2 := HK2.out.a3.cell (i := 2) rfl
    have g2 := HK2.out.a3.frozen 2
    have e3 := HK2.out.a3.cell (i := 3) rfl
    have g3 := HK2.out.a3.frozen 3
    have e4 := HK2.out.a3.cell (i := 4) rfl
    have g4 := HK2.out.a3.frozen 4
    have e5 := HK2.out.a3.cell (i := 5) rfl
    have g5 := HK2.out.a3.frozen 5
    have e6 := HK2.out.a3.cell (i := 6) rfl
    have g6 := HK2.out.a3.frozen 6
    have e7 := HK2.out.a3.cell (i := 7) rfl
    have g7 := HK2.out.a3.frozen 7
    have e8 := HK2.out.a3.cell (i := 8) rfl
    have g8 := HK2.out.a3.frozen 8
    have e9 := HK2.out.a3.cell (i := 9) rfl
    have g9 := HK2.out.a3.frozen 9
    have e10 := HK2.out.a3.cell (i := 10) rfl
    have g10 := HK2.out.a3.frozen 10
    have e11 := HK2.out.a3.cell (i := 11) rfl
    have g11 := HK2.out.a3.frozen 11
    have e12 := HK2.out.a3.cell (i := 12) rfl
    have g12 := HK2.out.a3.frozen 12
    go_wp2_with fail
    change bodyPost _ _ _ _ _ (stc (stc W2 (P + 1 + 1) [.slice none 0 0, .int .u64 0, .int .i64 0] 0) (P + 1 + 1 + 1) (An.of 0).cells 0)
    have HK3 := (HK2.out.st2 (vs := [.slice none 0 0, .int .u64 0, .int .i64 0]) rfl).st3 (vs := (An.of 0).cells) rfl
    exact bodyPost_ret (res_sa (n := 0) (a := An.of 0) rfl ⟨none, 0, rfl⟩ HK3.a2 HK3.a3 rfl rfl) rfl ⟨rfl, HK3.below⟩
  all_goals
    go_enter Tryd.func17, Tryd.ntmps17
    go_upto_region 1 with fail
    clear h1 hm
    have r0 := HK.out.a2.cell (i := 0) rfl
    have f0 := HK.out.a2.frozen 0
    have r1 := HK.out.a2.cell (i := 1) rfl
    have f1 := HK.out.a2.frozen 1
    have r2 := HK.out.a2.cell (i := 2) rfl
    have f2 := HK.out.a2.frozen 2
    have e0 := HK.out.a3.cell (i := 0) rfl
    have g0 := HK.out.a3.frozen 0
    have e1 := HK.out.a3.cell (i := 1) rfl
    have g1 := HK.out.a3.frozen 1
    have e2 := HK.out.a3.cell (i := 2) rfl
    have g2 := HK.out.a3.frozen 2
    have e3 := HK.out.a3.cell (i := 3) rfl
    have g3 := HK.out.a3.frozen 3
    have e4 := HK.out.a3.cell (i := 4) rfl
    have g4 := HK.out.a3.frozen 4
    have e5 := HK.out.a3.cell (i := 5) rfl
    have g5 := HK.out.a3.frozen 5
    have e6 := HK.out.a3.cell (i := 6) rfl
    have g6 := HK.out.a3.frozen 6
    have e7 := HK.out.a3.cell (i := 7) rfl
    have g7 := HK.out.a3.frozen 7
    have e8 := HK.out.a3.cell (i := 8) rfl
    have g8 := HK.out.a3.frozen 8
    have e9 := HK.out.a3.cell (i := 9) rfl
    have g9 := HK.out.a3.frozen 9
    have e10 := HK.out.a3.cell (i := 10) rfl
    have g10 := HK.out.a3.frozen 10
    have e11 := HK.out.a3.cell (i := 11) rfl
    have g11 := HK.out.a3.frozen 11
    have e12 := HK.out.a3.cell (i := 12) rfl
    have g12 := HK.out.a3.frozen 12
    go_wp2_with fail
    change bodyPost _ _ _ _ _ (stc (stc W1 (P + 1 + 1) [.slice none 0 0, .int .u64 0, .int .i64 0] 0) (P + 1 + 1 + 1) (An.of 0).cells 0)
    have HK3 := (HK.out.st2 (vs := [.slice none 0 0, .int .u64 0, .int .i64 0]) rfl).st3 (vs := (An.of 0).cells) rfl
    have hB3 : ∀ n, n = w.heap.size → Below n w _ := fun n hn => by rw [hn]; exact HK3.below
    exact bodyPost_ret (res_sa (n := 0) (a := An.of 0) rfl ⟨none, 0, rfl⟩ HK3.a2 HK3.a3 rfl rfl) rfl ⟨rfl, hB3 _ (by first | rfl | exact hP.symm)⟩
end Go.Proofs.YtpgljahomeebhaaDoor.Md
