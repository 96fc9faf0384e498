/-
  The contract of stored. Conditions: now is a moment; texts are not over long.
-/
import Derived.Test.YtpgljahomeebhaaDoorM3
namespace Go.Proofs.YtpgljahomeebhaaDoor.Md
open Go Go.RowKit Go.Lib

def Wk.std (s : Wk) : It :=
  if s.c.mode = 3 then { s.x with val := s.x.val ++ s.c.val, won := false, stale := s.oth }
  else if s.c.mode = 4 then { s.x with val := s.c.val ++ s.x.val, won := false, stale := s.oth }
  else ⟨s.c.key, s.c.flags, s.c.val, moment s.now s.c.exp, 0, 0, s.oth, false⟩
theorem res_it {fn : Func} {R : Nat} (h : fn.results = #[.cell R 33]) {tmps : Array Value} {w : World} {D : Nat} {x : It} (hd : Blk w D 33 (xc x)) (h3 : tmps[R]?.getD undef = .pointer (some ⟨D, 0, none⟩)) :
    (results fn tmps).run Tryd.prog w = .ok x.v w := by
  have r0 := hd.cell (i := 0) rfl
  have r1 := hd.cell (i := 1) rfl
  have r2 := hd.cell (i := 2) rfl
  have r3 := hd.cell (i := 3) rfl
  have r4 := hd.cell (i := 4) rfl
  have r5 := hd.cell (i := 5) rfl
  have r6 := hd.cell (i := 6) rfl
  have r7 := hd.cell (i := 7) rfl
  simp [results, h, h3, go_sem, r0, r1, r2, r3, r4, r5, r6, r7, It.v, It.cells]
/-- Three boxes of the call's own: what comes out, the command, an item. -/
structure K3 (w0 : World) (C X : Nat) (co cc cx : List Value) (W : World) : Prop where
  bo : Blk W w0.heap.size 33 co
  bc : Blk W C 28 cc
  bx : Blk W X 33 cx
  gc : w0.heap.size < C
  gx : w0.heap.size < X
  ne : C ≠ X
  below : Below w0.heap.size w0 W
section
variable {w0 W W' : World} {C X : Nat} {co cc cx vs : List Value}
theorem K3.step (h : K3 w0 C X co cc cx W) (hb : Below W.heap.size W W') : K3 w0 C X co cc cx W' := ⟨h.bo.below hb, h.bc.below hb, h.bx.below hb, h.gc, h.gx, h.ne, h.below.trans (hb.mono h.below.size)⟩
theorem K3.stx (h : K3 w0 C X co cc cx W) {pre cs post : List Value} {i : Nat} (hx : cx = pre ++ (cs ++ post)) (hp : pre.length = i) (hl : vs.length = cs.length) : K3 w0 C X co cc (pre ++ (vs ++ post)) (stc W X vs i) :=
  ⟨stc_other (by have := h.gx; omega) vs i W h.bo, stc_other h.ne vs i W h.bc, stc_mid vs i W pre cs post (by rw [← hx]; exact h.bx) hp hl, h.gc, h.gx, h.ne, stc_below (Nat.le_of_lt h.gx) vs i W h.below⟩
theorem K3.setx (h : K3 w0 C X co cc cx W) (i : Nat) (u : Value) : K3 w0 C X co cc (cx.set i u) (W.setCell ⟨X, i, none⟩ u) :=
  ⟨h.bo.setOther (p := ⟨X, i, none⟩) (by have := h.gx; show w0.heap.size ≠ X; omega) u, h.bc.setOther (p := ⟨X, i, none⟩) (by show C ≠ X; exact h.ne) u, h.bx.set i u, h.gc, h.gx, h.ne, h.below.setCell (p := ⟨X, i, none⟩) (Nat.le_of_lt h.gx) u⟩
theorem K3.sto (h : K3 w0 C X co cc cx W) (hl : vs.length = co.length) : K3 w0 C X vs cc cx (stc W w0.heap.size vs 0) :=
  ⟨stc_all h.bo hl, stc_other (by have := h.gc; omega) vs 0 W h.bc, stc_other (by have := h.gx; omega) vs 0 W h.bx, h.gc, h.gx, h.ne, stc_below (Nat.le_refl _) vs 0 W h.below⟩
theorem K3.begin (w0 : World) (co cc cx : Array Value) : (∀ W1, W1 = w0.alloc (.cells co 33) → K3 w0 (W1.heap.size) (W1.heap.size + 1) co.toList cc.toList cx.toList ((W1.alloc (.cells cc 28)).alloc (.cells cx 33)).drew ∧ K3 w0 (W1.heap.size + 1) (W1.heap.size) co.toList cc.toList cx.toList ((W1.alloc (.cells cx 33)).alloc (.cells cc 28)).drew) := by
  rintro W1 h1
  have h0 : Blk W1 w0.heap.size 33 co.toList := by rw [h1]; exact Blk.new w0 co _
  have q0 : Below w0.heap.size w0 W1 := by rw [h1]; exact abelow _ _
  have z1 : W1.heap.size = w0.heap.size + 1 := by rw [h1]; simp
  have a1 := Blk.new W1 cc 28
  have a2 := abelow W1 (.cells cc 28)
  have c1 := Blk.new W1 cx 33
  have c2 := abelow W1 (.cells cx 33)
  generalize hwa : W1.alloc (.cells cc 28) = Wa at *
  generalize hwc : W1.alloc (.cells cx 33) = Wc at *
  have za : Wa.heap.size = W1.heap.size + 1 := by rw [← hwa]; simp
  have zc : Wc.heap.size = W1.heap.size + 1 := by rw [← hwc]; simp
  have a3 := Blk.new Wa cx 33
  have a4 := abelow Wa (.cells cx 33)
  have c3 := Blk.new Wc cc 28
  have c4 := abelow Wc (.cells cc 28)
  rw [za] at a3
  rw [zc] at c3
  exact ⟨⟨(h0.below a2).below a4.drew, a1.below a4.drew, a3, by omega, by omega, by omega, (Below.then (Below.then q0 a2) a4).drew⟩, ⟨(h0.below c2).below c4.drew, c3, c1.below c4.drew, by omega, by omega, by omega, (Below.then (Below.then q0 c2) c4).drew⟩⟩
end
section
variable {B : Nat} {s : Wk} {w : World}
set_option maxHeartbeats 1000000 in
set_option maxRecDepth 100000 in
theorem wk_stored (h : WR B s w) (n1 : 1 ≤ s.now) (n2 : s.now ≤ 1099511627776) (hv : s.x.val.size + s.c.val.size ≤ 4194304) : Calls Tryd.prog 57 #[.pointer (some ⟨B, 0, none⟩)] w fun e w' => e = .returned s.std.v ∧ Below w.heap.size w w' := by
  obtain ⟨R, hR⟩ : ∃ R, R = s.std := ⟨_, rfl⟩
  rw [← hR]
  have HR := hid (show R = (if s.c.mode = 3 then (It.mk s.x.key s.x.flags (s.x.val ++ s.c.val) s.x.exp s.x.cas s.x.last s.oth false) else if s.c.mode = 4 then (It.mk s.x.key s.x.flags (s.c.val ++ s.x.val) s.x.exp s.x.cas s.x.last s.oth false) else It.mk s.c.key s.c.flags s.c.val (moment s.now s.c.exp) 0 0 s.oth false) from hR)
  have hmo := fun W (hW : WR B s W) => wk_moment hW s.c.exp n1 n2
  have hot := fun W (hW : WR B s W) => wk_oth hW
  generalize s.oth = oh at *
  generalize moment s.now s.c.exp = M at *
  clear hR n1 n2
  obtain ⟨W1, h1⟩ : ∃ W1, w.alloc (.cells #[.string ⟨#[]⟩, .int .u32 0, .string ⟨#[]⟩, .int .i64 0, .int .u64 0, .int .i64 0, .bool false, .bool false] 33) = W1 := ⟨_, rfl⟩
  have hb1 : Below w.heap.size w W1 := by rw [← h1]; exact abelow _ _
  have HH := hid (h.below hb1)
  have HK := hid (K3.begin w #[.string ⟨#[]⟩, .int .u32 0, .string ⟨#[]⟩, .int .i64 0, .int .u64 0, .int .i64 0, .bool false, .bool false] #[.int .i64 s.c.op, .int .i64 s.c.mode, .string s.c.key, .string s.c.val, .int .u32 s.c.flags, .int .i64 s.c.exp, .bool s.c.hasExp, .int .u64 s.c.cas, .bool s.c.hasCas, .int .u64 s.c.delta, .int .u64 s.c.init, .bool s.c.down, .bool s.c.viv, .int .i64 s.c.vive, .int .i64 s.c.rcc, .bool s.c.inv] #[.string s.x.key, .int .u32 s.x.flags, .string s.x.val, .int .i64 s.x.exp, .int .u64 s.x.cas, .int .i64 s.x.last, .bool s.x.stale, .bool s.x.won] W1 h1.symm)
  obtain ⟨v, hB⟩ := HH.out
  --GEN cells
  have b3 := hB.cell (i := 3) rfl
  change W1.cell? ⟨B, 3, none⟩ = some (.int .i64 s.c.op) at b3
  have b4 := hB.cell (i := 4) rfl
  change W1.cell? ⟨B, 4, none⟩ = some (.int .i64 s.c.mode) at b4
  have b5 := hB.cell (i := 5) rfl
  change W1.cell? ⟨B, 5, none⟩ = some (.string s.c.key) at b5
  have b6 := hB.cell (i := 6) rfl
  change W1.cell? ⟨B, 6, none⟩ = some (.string s.c.val) at b6
  have b7 := hB.cell (i := 7) rfl
  change W1.cell? ⟨B, 7, none⟩ = some (.int .u32 s.c.flags) at b7
  have b8 := hB.cell (i := 8) rfl
  change W1.cell? ⟨B, 8, none⟩ = some (.int .i64 s.c.exp) at b8
  have b9 := hB.cell (i := 9) rfl
  change W1.cell? ⟨B, 9, none⟩ = some (.bool s.c.hasExp) at b9
  have b10 := hB.cell (i := 10) rfl
  change W1.cell? ⟨B, 10, none⟩ = some (.int .u64 s.c.cas) at b10
  have b11 := hB.cell (i := 11) rfl
  change W1.cell? ⟨B, 11, none⟩ = some (.bool s.c.hasCas) at b11
  have b12 := hB.cell (i := 12) rfl
  change W1.cell? ⟨B, 12, none⟩ = some (.int .u64 s.c.delta) at b12
  have b13 := hB.cell (i := 13) rfl
  change W1.cell? ⟨B, 13, none⟩ = some (.int .u64 s.c.init) at b13
  have b14 := hB.cell (i := 14) rfl
  change W1.cell? ⟨B, 14, none⟩ = some (.bool s.c.down) at b14
  have b15 := hB.cell (i := 15) rfl
  change W1.cell? ⟨B, 15, none⟩ = some (.bool s.c.viv) at b15
  have b16 := hB.cell (i := 16) rfl
  change W1.cell? ⟨B, 16, none⟩ = some (.int .i64 s.c.vive) at b16
  have b17 := hB.cell (i := 17) rfl
  change W1.cell? ⟨B, 17, none⟩ = some (.int .i64 s.c.rcc) at b17
  have b18 := hB.cell (i := 18) rfl
  change W1.cell? ⟨B, 18, none⟩ = some (.bool s.c.inv) at b18
  have b22 := hB.cell (i := 22) rfl
  change W1.cell? ⟨B, 22, none⟩ = some (.string s.x.key) at b22
  have b23 := hB.cell (i := 23) rfl
  change W1.cell? ⟨B, 23, none⟩ = some (.int .u32 s.x.flags) at b23
  have b24 := hB.cell (i := 24) rfl
  change W1.cell? ⟨B, 24, none⟩ = some (.string s.x.val) at b24
  have b25 := hB.cell (i := 25) rfl
  change W1.cell? ⟨B, 25, none⟩ = some (.int .i64 s.x.exp) at b25
  have b26 := hB.cell (i := 26) rfl
  change W1.cell? ⟨B, 26, none⟩ = some (.int .u64 s.x.cas) at b26
  have b27 := hB.cell (i := 27) rfl
  change W1.cell? ⟨B, 27, none⟩ = some (.int .i64 s.x.last) at b27
  have b28 := hB.cell (i := 28) rfl
  change W1.cell? ⟨B, 28, none⟩ = some (.bool s.x.stale) at b28
  have b29 := hB.cell (i := 29) rfl
  change W1.cell? ⟨B, 29, none⟩ = some (.bool s.x.won) at b29
  --END
  have lB := hB.lt
  have HBX : Hid (B < w.heap.size) := hid (by obtain ⟨v0, h0⟩ := h; exact h0.lt)
  have HB1 := hid hb1
  clear hB h hb1
  go_enter Tryd.func57, Tryd.ntmps57
  go_upto_region 1 with fail
  clear h1
  go_cut [3, 4] from 5 to 12 (fun c x wx => ∃ C X, c = .pointer (some ⟨C, 0, none⟩) ∧ x = .pointer (some ⟨X, 0, none⟩) ∧ Hid (K3 w C X [.string ⟨#[]⟩, .int .u32 0, .string ⟨#[]⟩, .int .i64 0, .int .u64 0, .int .i64 0, .bool false, .bool false] [.int .i64 s.c.op, .int .i64 s.c.mode, .string s.c.key, .string s.c.val, .int .u32 s.c.flags, .int .i64 s.c.exp, .bool s.c.hasExp, .int .u64 s.c.cas, .bool s.c.hasCas, .int .u64 s.c.delta, .int .u64 s.c.init, .bool s.c.down, .bool s.c.viv, .int .i64 s.c.vive, .int .i64 s.c.rcc, .bool s.c.inv] (xc s.x) wx) ∧ Hid (Below W1.heap.size W1 wx))
  case first =>
    --GEN held
    go_region_held3 (fun W => W.cell? ⟨B, 3, none⟩ = some (.int .i64 s.c.op) ∧ W.cell? ⟨B, 4, none⟩ = some (.int .i64 s.c.mode) ∧ W.cell? ⟨B, 5, none⟩ = some (.string s.c.key) ∧ W.cell? ⟨B, 6, none⟩ = some (.string s.c.val) ∧ W.cell? ⟨B, 7, none⟩ = some (.int .u32 s.c.flags) ∧ W.cell? ⟨B, 8, none⟩ = some (.int .i64 s.c.exp) ∧ W.cell? ⟨B, 9, none⟩ = some (.bool s.c.hasExp) ∧ W.cell? ⟨B, 10, none⟩ = some (.int .u64 s.c.cas) ∧ W.cell? ⟨B, 11, none⟩ = some (.bool s.c.hasCas) ∧ W.cell? ⟨B, 12, none⟩ = some (.int .u64 s.c.delta) ∧ W.cell? ⟨B, 13, none⟩ = some (.int .u64 s.c.init) ∧ W.cell? ⟨B, 14, none⟩ = some (.bool s.c.down) ∧ W.cell? ⟨B, 15, none⟩ = some (.bool s.c.viv) ∧ W.cell? ⟨B, 16, none⟩ = some (.int .i64 s.c.vive) ∧ W.cell? ⟨B, 17, none⟩ = some (.int .i64 s.c.rcc) ∧ W.cell? ⟨B, 18, none⟩ = some (.bool s.c.inv) ∧ W.cell? ⟨B, 22, none⟩ = some (.string s.x.key) ∧ W.cell? ⟨B, 23, none⟩ = some (.int .u32 s.x.flags) ∧ W.cell? ⟨B, 24, none⟩ = some (.string s.x.val) ∧ W.cell? ⟨B, 25, none⟩ = some (.int .i64 s.x.exp) ∧ W.cell? ⟨B, 26, none⟩ = some (.int .u64 s.x.cas) ∧ W.cell? ⟨B, 27, none⟩ = some (.int .i64 s.x.last) ∧ W.cell? ⟨B, 28, none⟩ = some (.bool s.x.stale) ∧ W.cell? ⟨B, 29, none⟩ = some (.bool s.x.won)) (go_keep) (first | fail)
    --END
    · go_wp2_with fail
      go_meet
      exact ⟨_, _, rfl, rfl, hid HK.out.1, hid (Below.drew (Below.then (abelow W1 _) (abelow _ _)))⟩
    · go_wp2_with fail
      go_meet
      exact ⟨_, _, rfl, rfl, hid HK.out.2, hid (Below.drew (Below.then (abelow W1 _) (abelow _ _)))⟩
  case rest =>
    obtain ⟨C, X, rfl, rfl, HK1, hb2⟩ := hcut
    have HW1 := hid (HH.out.below hb2.out)
    clear HK HH hb2
    --GEN clr
    clear b3 b4 b5 b6 b7 b8 b9 b10 b11 b12 b13 b14 b15 b16 b17 b18 b22 b23 b24 b25 b26 b27 b28 b29
    --END
    generalize wc = W2 at *
    clear lB
    have m1 := HK1.out.bc.cell (i := 1) rfl
    change W2.cell? ⟨C, 1, none⟩ = some (.int .i64 s.c.mode) at m1
    by_cases hm : s.c.mode = 3
    · rw [hm] at m1
      have hR2 := HR.out
      rw [if_pos hm] at hR2
      subst hR2
      clear HR hmo
      --GEN m3
      have m3 := HK1.out.bc.cell (i := 3) rfl
      have x2 := HK1.out.bx.cell (i := 2) rfl
      change W2.cell? ⟨X, 2, none⟩ = some (.string s.x.val) at x2
      have g2 := HK1.out.bx.frozen 2
      have lX := HK1.out.bx.lt
      have hsz : s.x.val.size + s.c.val.size ≤ 9223372036854775807 := by omega
      have hsz2 : s.c.val.size + s.x.val.size ≤ 9223372036854775807 := by omega
      have HK3 := hid (HK1.out.setx 2 (.string (s.x.val ++ s.c.val)))
      have hwb : Below w.heap.size w (W2.setCell ⟨X, 2, none⟩ (.string (s.x.val ++ s.c.val))) := HK3.out.below
      have HW3 : Hid (WR B s (W2.setCell ⟨X, 2, none⟩ (.string (s.x.val ++ s.c.val)))) := hid (by
        obtain ⟨v, hv⟩ := HW1.out
        exact ⟨v, hv.setOther (p := ⟨X, 2, none⟩) (by have := HBX.out; have := HK1.out.gx; show B ≠ X; omega) _⟩)
      clear HK1 HW1 hwb
      go_upto_region 8 with fail
      generalize W2.setCell ⟨X, 2, none⟩ (.string (s.x.val ++ s.c.val)) = W3 at *
      clear m1 m3 x2 g2 lX hsz hsz2
      have ho := hot W3 HW3.out
      clear hot
      go_wp2_with fail
      refine ho.mono ?_
      rintro e W7 ⟨rfl, hb7⟩
      have HK7 := hid (HK3.out.step hb7)
      clear hb7 HK3 HW3 ho
      have x6 := HK7.out.bx.cell (i := 6) rfl
      have x7 := HK7.out.bx.cell (i := 7) rfl
      have g6 := HK7.out.bx.frozen 6
      have g7 := HK7.out.bx.frozen 7
      have lX := HK7.out.bx.lt
      have HK8 := hid ((HK7.out.setx 7 (.bool false)).setx 6 (.bool oh))
      clear HK7
      go_upto_region 9 with fail
      generalize (W7.setCell ⟨X, 7, none⟩ (.bool false)).setCell ⟨X, 6, none⟩ (.bool oh) = W8 at *
      clear x6 x7 g6 g7 lX
      have x0 := HK8.out.bx.cell (i := 0) rfl
      have x1 := HK8.out.bx.cell (i := 1) rfl
      have x2 := HK8.out.bx.cell (i := 2) rfl
      have x3 := HK8.out.bx.cell (i := 3) rfl
      have x4 := HK8.out.bx.cell (i := 4) rfl
      have x5 := HK8.out.bx.cell (i := 5) rfl
      have x6 := HK8.out.bx.cell (i := 6) rfl
      have x7 := HK8.out.bx.cell (i := 7) rfl
      have e0 := HK8.out.bo.cell (i := 0) rfl
      have f0 := HK8.out.bo.frozen 0
      have e1 := HK8.out.bo.cell (i := 1) rfl
      have f1 := HK8.out.bo.frozen 1
      have e2 := HK8.out.bo.cell (i := 2) rfl
      have f2 := HK8.out.bo.frozen 2
      have e3 := HK8.out.bo.cell (i := 3) rfl
      have f3 := HK8.out.bo.frozen 3
      have e4 := HK8.out.bo.cell (i := 4) rfl
      have f4 := HK8.out.bo.frozen 4
      have e5 := HK8.out.bo.cell (i := 5) rfl
      have f5 := HK8.out.bo.frozen 5
      have e6 := HK8.out.bo.cell (i := 6) rfl
      have f6 := HK8.out.bo.frozen 6
      have e7 := HK8.out.bo.cell (i := 7) rfl
      have f7 := HK8.out.bo.frozen 7
      go_wp2_with fail
      change bodyPost _ _ _ _ _ (stc W8 w.heap.size (xc (It.mk s.x.key s.x.flags (s.x.val ++ s.c.val) s.x.exp s.x.cas s.x.last oh false)) 0)
      exact bodyPost_ret (res_it (x := It.mk s.x.key s.x.flags (s.x.val ++ s.c.val) s.x.exp s.x.cas s.x.last oh false) rfl (stc_all HK8.out.bo rfl) rfl) rfl ⟨rfl, (HK8.out.sto (vs := xc (It.mk s.x.key s.x.flags (s.x.val ++ s.c.val) s.x.exp s.x.cas s.x.last oh false)) rfl).below⟩
      --END
    · by_cases hm4 : s.c.mode = 4
      · rw [hm4] at m1
        have hR2 := HR.out
        rw [if_neg hm, if_pos hm4] at hR2
        subst hR2
        clear HR hmo
        --GEN m4
        have m3 := HK1.out.bc.cell (i := 3) rfl
        have x2 := HK1.out.bx.cell (i := 2) rfl
        change W2.cell? ⟨X, 2, none⟩ = some (.string s.x.val) at x2
        have g2 := HK1.out.bx.frozen 2
        have lX := HK1.out.bx.lt
        have hsz : s.x.val.size + s.c.val.size ≤ 9223372036854775807 := by omega
        have hsz2 : s.c.val.size + s.x.val.size ≤ 9223372036854775807 := by omega
        have HK3 := hid (HK1.out.setx 2 (.string (s.c.val ++ s.x.val)))
        have hwb : Below w.heap.size w (W2.setCell ⟨X, 2, none⟩ (.string (s.c.val ++ s.x.val))) := HK3.out.below
        have HW3 : Hid (WR B s (W2.setCell ⟨X, 2, none⟩ (.string (s.c.val ++ s.x.val)))) := hid (by
          obtain ⟨v, hv⟩ := HW1.out
          exact ⟨v, hv.setOther (p := ⟨X, 2, none⟩) (by have := HBX.out; have := HK1.out.gx; show B ≠ X; omega) _⟩)
        clear HK1 HW1 hwb
        go_upto_region 8 with fail
        generalize W2.setCell ⟨X, 2, none⟩ (.string (s.c.val ++ s.x.val)) = W3 at *
        clear m1 m3 x2 g2 lX hsz hsz2
        have ho := hot W3 HW3.out
        clear hot
        go_wp2_with fail
        refine ho.mono ?_
        rintro e W7 ⟨rfl, hb7⟩
        have HK7 := hid (HK3.out.step hb7)
        clear hb7 HK3 HW3 ho
        have x6 := HK7.out.bx.cell (i := 6) rfl
        have x7 := HK7.out.bx.cell (i := 7) rfl
        have g6 := HK7.out.bx.frozen 6
        have g7 := HK7.out.bx.frozen 7
        have lX := HK7.out.bx.lt
        have HK8 := hid ((HK7.out.setx 7 (.bool false)).setx 6 (.bool oh))
        clear HK7
        go_upto_region 9 with fail
        generalize (W7.setCell ⟨X, 7, none⟩ (.bool false)).setCell ⟨X, 6, none⟩ (.bool oh) = W8 at *
        clear x6 x7 g6 g7 lX
        have x0 := HK8.out.bx.cell (i := 0) rfl
        have x1 := HK8.out.bx.cell (i := 1) rfl
        have x2 := HK8.out.bx.cell (i := 2) rfl
        have x3 := HK8.out.bx.cell (i := 3) rfl
        have x4 := HK8.out.bx.cell (i := 4) rfl
        have x5 := HK8.out.bx.cell (i := 5) rfl
        have x6 := HK8.out.bx.cell (i := 6) rfl
        have x7 := HK8.out.bx.cell (i := 7) rfl
        have e0 := HK8.out.bo.cell (i := 0) rfl
        have f0 := HK8.out.bo.frozen 0
        have e1 := HK8.out.bo.cell (i := 1) rfl
        have f1 := HK8.out.bo.frozen 1
        have e2 := HK8.out.bo.cell (i := 2) rfl
        have f2 := HK8.out.bo.frozen 2
        have e3 := HK8.out.bo.cell (i := 3) rfl
        have f3 := HK8.out.bo.frozen 3
        have e4 := HK8.out.bo.cell (i := 4) rfl
        have f4 := HK8.out.bo.frozen 4
        have e5 := HK8.out.bo.cell (i := 5) rfl
        have f5 := HK8.out.bo.frozen 5
        have e6 := HK8.out.bo.cell (i := 6) rfl
        have f6 := HK8.out.bo.frozen 6
        have e7 := HK8.out.bo.cell (i := 7) rfl
        have f7 := HK8.out.bo.frozen 7
        go_wp2_with fail
        change bodyPost _ _ _ _ _ (stc W8 w.heap.size (xc (It.mk s.x.key s.x.flags (s.c.val ++ s.x.val) s.x.exp s.x.cas s.x.last oh false)) 0)
        exact bodyPost_ret (res_it (x := It.mk s.x.key s.x.flags (s.c.val ++ s.x.val) s.x.exp s.x.cas s.x.last oh false) rfl (stc_all HK8.out.bo rfl) rfl) rfl ⟨rfl, (HK8.out.sto (vs := xc (It.mk s.x.key s.x.flags (s.c.val ++ s.x.val) s.x.exp s.x.cas s.x.last oh false)) rfl).below⟩
        --END
      · have hm3' : (s.c.mode == 3) = false := beq_eq_false_iff_ne.2 hm
        have hm4' : (s.c.mode == 4) = false := beq_eq_false_iff_ne.2 hm4
        have hR2 := HR.out
        rw [if_neg hm, if_neg hm4] at hR2
        subst hR2
        clear HR hv
        --GEN md
        have hd2 : Below W2.heap.size W2 W2.drew := Below.drew (Below.refl _ _)
        have HK2 := hid (HK1.out.step hd2)
        have HW2 := hid (HW1.out.below hd2)
        have hm := hmo W2.drew HW2.out
        clear hmo HK1 HW1 hd2
        go_upto_region 3 with fail
        refine region_tl 11 (by kernel_rfl) (by kernel_rfl) ?_
        simp only [List.take_succ_cons, List.take_zero, List.drop_succ_cons, List.drop_zero]
        generalize W2.drew = Wd at *
        clear m1
        have m2 := HK2.out.bc.cell (i := 2) rfl
        have m3 := HK2.out.bc.cell (i := 3) rfl
        have m4 := HK2.out.bc.cell (i := 4) rfl
        have m5 := HK2.out.bc.cell (i := 5) rfl
        repeat still_step
        refine wpStill_step (fun K hK => ?_)
        go_simp
        refine ⟨_, hm.mono (fun e w' hh => ⟨hh.1, hh.2.symm⟩), hK _ ?_⟩
        clear hK K hm
        repeat still_step
        refine wpStill_nil ?_
        have e0 := HK2.out.bx.cell (i := 0) rfl
        have f0 := HK2.out.bx.frozen 0
        have e1 := HK2.out.bx.cell (i := 1) rfl
        have f1 := HK2.out.bx.frozen 1
        have e2 := HK2.out.bx.cell (i := 2) rfl
        have f2 := HK2.out.bx.frozen 2
        have e3 := HK2.out.bx.cell (i := 3) rfl
        have f3 := HK2.out.bx.frozen 3
        have e4 := HK2.out.bx.cell (i := 4) rfl
        have f4 := HK2.out.bx.frozen 4
        have e5 := HK2.out.bx.cell (i := 5) rfl
        have f5 := HK2.out.bx.frozen 5
        have e6 := HK2.out.bx.cell (i := 6) rfl
        have f6 := HK2.out.bx.frozen 6
        have e7 := HK2.out.bx.cell (i := 7) rfl
        have f7 := HK2.out.bx.frozen 7
        have lX := HK2.out.bx.lt
        have HK3 := hid (HK2.out.stx (vs := [.string s.c.key, .int .u32 s.c.flags, .string s.c.val, .int .i64 M, .int .u64 0, .int .i64 0, .bool false, .bool false]) (pre := []) (cs := xc s.x) (post := []) (i := 0) rfl rfl rfl)
        have HW3 : Hid (WR B s (stc Wd X [.string s.c.key, .int .u32 s.c.flags, .string s.c.val, .int .i64 M, .int .u64 0, .int .i64 0, .bool false, .bool false] 0)) := hid (by
          obtain ⟨v, hv⟩ := HW2.out
          exact ⟨v, stc_other (by have := HBX.out; have := HK2.out.gx; omega) _ 0 Wd hv⟩)
        clear HK2 HW2
        go_upto_region 8 with fail
        change Code.wp _ _ _ _ (stc Wd X [.string s.c.key, .int .u32 s.c.flags, .string s.c.val, .int .i64 M, .int .u64 0, .int .i64 0, .bool false, .bool false] 0)
        generalize stc Wd X [.string s.c.key, .int .u32 s.c.flags, .string s.c.val, .int .i64 M, .int .u64 0, .int .i64 0, .bool false, .bool false] 0 = W3 at *
        clear m2 m3 m4 m5 lX e0 e1 e2 e3 e4 e5 e6 e7 f0 f1 f2 f3 f4 f5 f6 f7
        have ho := hot W3 HW3.out
        clear hot
        go_wp2_with fail
        refine ho.mono ?_
        rintro e W7 ⟨rfl, hb7⟩
        have HK7 := hid (HK3.out.step hb7)
        clear hb7 HK3 HW3 ho
        have x6 := HK7.out.bx.cell (i := 6) rfl
        have x7 := HK7.out.bx.cell (i := 7) rfl
        have g6 := HK7.out.bx.frozen 6
        have g7 := HK7.out.bx.frozen 7
        have lX := HK7.out.bx.lt
        have HK8 := hid ((HK7.out.setx 7 (.bool false)).setx 6 (.bool oh))
        clear HK7
        go_upto_region 9 with fail
        generalize (W7.setCell ⟨X, 7, none⟩ (.bool false)).setCell ⟨X, 6, none⟩ (.bool oh) = W8 at *
        clear x6 x7 g6 g7 lX
        have x0 := HK8.out.bx.cell (i := 0) rfl
        have x1 := HK8.out.bx.cell (i := 1) rfl
        have x2 := HK8.out.bx.cell (i := 2) rfl
        have x3 := HK8.out.bx.cell (i := 3) rfl
        have x4 := HK8.out.bx.cell (i := 4) rfl
        have x5 := HK8.out.bx.cell (i := 5) rfl
        have x6 := HK8.out.bx.cell (i := 6) rfl
        have x7 := HK8.out.bx.cell (i := 7) rfl
        have e0 := HK8.out.bo.cell (i := 0) rfl
        have f0 := HK8.out.bo.frozen 0
        have e1 := HK8.out.bo.cell (i := 1) rfl
        have f1 := HK8.out.bo.frozen 1
        have e2 := HK8.out.bo.cell (i := 2) rfl
        have f2 := HK8.out.bo.frozen 2
        have e3 := HK8.out.bo.cell (i := 3) rfl
        have f3 := HK8.out.bo.frozen 3
        have e4 := HK8.out.bo.cell (i := 4) rfl
        have f4 := HK8.out.bo.frozen 4
        have e5 := HK8.out.bo.cell (i := 5) rfl
        have f5 := HK8.out.bo.frozen 5
        have e6 := HK8.out.bo.cell (i := 6) rfl
        have f6 := HK8.out.bo.frozen 6
        have e7 := HK8.out.bo.cell (i := 7) rfl
        have f7 := HK8.out.bo.frozen 7
        go_wp2_with fail
        change bodyPost _ _ _ _ _ (stc W8 w.heap.size (xc (It.mk s.c.key s.c.flags s.c.val M 0 0 oh false)) 0)
        exact bodyPost_ret (res_it (x := It.mk s.c.key s.c.flags s.c.val M 0 0 oh false) rfl (stc_all HK8.out.bo rfl) rfl) rfl ⟨rfl, (HK8.out.sto (vs := xc (It.mk s.c.key s.c.flags s.c.val M 0 0 oh false)) rfl).below⟩
        --END
end
end Go.Proofs.YtpgljahomeebhaaDoor.Md
