/-
  The walk of item.Decode at this program where the lengths fit: the capacity is 40. Conditions: those of its numbers.
-/
import Derived.Test.YtdbaldkinjdeaaaItemDecB
namespace Go.Proofs.Ytdbaldkinjdeaaa
open Go Go.RowKit Go.Lib

set_option maxHeartbeats 4000000 in
set_option maxRecDepth 100000 in
theorem dec_walk_a (w : World) (g o n c H T K V M : Nat) (l : List UInt8) (zF zE zC zL : Nat) (kb vb : ByteArray) (iE iL : Int) (st wo r : Bool) (hb : Byts w (.slice (some ⟨g, o, none⟩) n c) l)
    (hDN : DN n c H T K V) (o1 o2 : Nat) (hDC : DC g o n c H T K V l zF zE zC zL kb vb o1 o2) (h1 : (c = 40) = True) (h2 : (c = H) = True) (e1 : o = o1) (e2 : o = o2)
    (hx0 : w.cell? ⟨g, o, none⟩ = some (.int .u8 K)) (hx1 : w.cell? ⟨g, o + 1, none⟩ = some (.int .u8 M)) (hF : IntKind.u32.wrap (zF : Int) = (zF : Int)) (hE : IntKind.i64.wrap (zE : Int) = iE) (hL : IntKind.i64.wrap (zL : Int) = iL)
    (hst : (bits .and .u8 (M : Int) 1 != 0) = st) (hwo : (bits .and .u8 (M : Int) 2 != 0) = wo) (hr : (⟨kb, zF, vb, iE, zC, iL, st, wo⟩ : It).right = r) :
    Calls Try.prog 14 #[.slice (some ⟨g, o, none⟩) n c] w fun e w' => e = .returned (decV (if r = true then some ⟨kb, zF, vb, iE, zC, iL, st, wo⟩ else none)) ∧ Below w.heap.size w w' := by
  subst e1 e2
  obtain ⟨n40, n0, n1, nT, T0, cT, HT, H40, c8, c12, c24, c32, c40, cH, d4, d8, d16, d24, d32, w1, w2, w3, w4⟩ := hDN
  obtain ⟨hH, hN8, hN4, hN16, hN24, hN32, hck, hcv, hsi⟩ := hDC
  have hri := fun w => right_any ⟨kb, zF, vb, iE, zC, iL, st, wo⟩ w
  rw [hr] at hri
  have HB := hid hb
  have HB1 := hid (byts_alloc hb (.cells zero.cells.toArray 25))
  have HL := hid ((Below.refl w.heap.size w).alloc (Nat.le_refl _) (.cells zero.cells.toArray 25))
  have HZ := hid (Blk.new w zero.cells.toArray 25)
  have hy0 := cell_alloc hx0 (.cells zero.cells.toArray 25)
  have hy1 := cell_alloc hx1 (.cells zero.cells.toArray 25)
  have HS0 := hid (And.intro hy1 HB1)
  rw [zero_cells] at hy0 hy1 HZ HB1 HL HS0
  have HM := hid (mid_of w ⟨kb, zF, vb, iE, zC, iL, st, wo⟩)
  rw [zero_cells] at HM
  simp only [It.v, It.cells] at hri HM
  clear hb hr hx0 hx1
  go_enter Try.func14, Try.ntmps14
  go_wp2_with fail
  refine (hH _ (byts_alloc HB.out _)).mono ?_
  rintro e wq ⟨rfl, rfl⟩
  clear hH
  go_wp2_with fail
  go_region_held3 (fun w' => w'.cell? ⟨g, o, none⟩ = some (.int .u8 K)) (exact hy0) (first
    | (go_at_call 23; refine (hN8 _ HB1.out.drew.drew).mono ?_; rintro e wq ⟨rfl, rfl⟩)
    | fail)
  go_wp2_with fail
  refine (hsi _).mono ?_
  rintro e wq ⟨rfl, rfl⟩
  clear hsi hy0
  go_wp2_with fail
  go_cut [8] from 9 to 74 (fun v wx => v = .pointer (some ⟨w.heap.size + 1, 0, none⟩) ∧ Hid (Mid w ⟨kb, zF, vb, iE, zC, iL, st, wo⟩ wx))
  case first =>
    go_region_held3 (fun w' => w'.cell? ⟨g, o + 1, none⟩ = some (.int .u8 M) ∧ Hid (Byts w' (.slice (some ⟨g, o, none⟩) n c) l)) (first | exact HS0.out | exact keep_alloc HS0.out _) (first
      | (go_at_call 23; have hz := hD3; refine Calls.mono (hN32 _ ?_) ?_; (first | exact HB1.out.drew.drew.drew | exact (byts_alloc HB1.out _).drew.drew.drew); rintro e wz ⟨rfl, rfl⟩; have hD4 := True.intro)
      | (go_at_call 23; have hz := hD2; refine Calls.mono (hN24 _ ?_) ?_; (first | exact HB1.out.drew.drew.drew | exact (byts_alloc HB1.out _).drew.drew.drew); rintro e wz ⟨rfl, rfl⟩; have hD3 := True.intro)
      | (go_at_call 23; have hz := hD1; refine Calls.mono (hN16 _ ?_) ?_; (first | exact HB1.out.drew.drew.drew | exact (byts_alloc HB1.out _).drew.drew.drew); rintro e wz ⟨rfl, rfl⟩; have hD2 := True.intro)
      | (go_at_call 23; refine Calls.mono (hN4 _ ?_) ?_; (first | exact HB1.out.drew.drew.drew | exact (byts_alloc HB1.out _).drew.drew.drew); rintro e wz ⟨rfl, rfl⟩; have hD1 := True.intro)
      | fail)
    all_goals
      go_wp2_with fail
      go_meet
      exact ⟨rfl, HM⟩
  case rest =>
    obtain ⟨rfl, HM2⟩ := hcut
    clear hN4 hN8 hN16 hN24 hN32 hck hcv HS0 HB HB1 HM
    obtain ⟨q0, q1, q2, q3, q4, q5, q6, q7⟩ := box_cells HM2.out.item
    go_wp2_with fail
    refine (hri _).mono ?_
    rintro e w5 ⟨rfl, b5⟩
    clear q0 q1 q2 q3 q4 q5 q6 q7 hri
    have hM5 := HM2.out.next b5
    clear b5 HM2
    obtain ⟨q0, q1, q2, q3, q4, q5, q6, q7⟩ := box_cells hM5.item
    obtain ⟨r0, r1, r2, r3, r4, r5, r6, r7⟩ := box_cells hM5.res
    have s0 := hM5.res.frozen 0
    have s1 := hM5.res.frozen 1
    have s2 := hM5.res.frozen 2
    have s3 := hM5.res.frozen 3
    have s4 := hM5.res.frozen 4
    have s5 := hM5.res.frozen 5
    have s6 := hM5.res.frozen 6
    have s7 := hM5.res.frozen 7
    have HM5 := hid hM5
    clear hM5
    cases r with
    | false =>
      go_wp2_with fail
      refine bodyPost_ret (res_item (x := zero) (R := w.heap.size) rfl (setItem_blk zero HM5.out.res) rfl rfl) rfl ?_
      exact ⟨rfl, setItem_below zero HM5.out.below (Nat.le_refl _)⟩
    | true =>
      go_wp2_with fail
      refine bodyPost_ret (res_item (x := ⟨kb, zF, vb, iE, zC, iL, st, wo⟩) (R := w.heap.size) rfl (setItem_blk ⟨kb, zF, vb, iE, zC, iL, st, wo⟩ HM5.out.res) rfl rfl) rfl ?_
      exact ⟨rfl, setItem_below ⟨kb, zF, vb, iE, zC, iL, st, wo⟩ HM5.out.below (Nat.le_refl _)⟩
end Go.Proofs.Ytdbaldkinjdeaaa
