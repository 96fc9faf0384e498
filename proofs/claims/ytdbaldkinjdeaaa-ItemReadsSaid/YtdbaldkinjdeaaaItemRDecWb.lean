/-
  The walk of ambryref08.Decode at this program where the lengths fit: the value begins at the capacity. Conditions: those of its numbers.
-/
import Derived.Test.YtdbaldkinjdeaaaItemRDecB
namespace Go.Proofs.Ytdbaldkinjdeaaa
open Go Go.RowKit Go.Lib

set_option maxHeartbeats 4000000 in
set_option maxRecDepth 100000 in
theorem rdec_walk_b (w : World) (g o n c H T K V M : Nat) (l : List UInt8) (zF zE zC zL : Nat) (kb vb : ByteArray) (iE iL : Int) (st wo r : Bool) (hb : Byts w (.slice (some ⟨g, o, none⟩) n c) l)
    (hRN : RN n c H T K V M) (o1 o2 : Nat) (hRC : RC g o n c H T V M l zF zE zC zL kb vb o1 o2) (h1 : ¬ c = 40) (h2 : (c = H) = True) (e1 : o1 = o + 40) (e2 : o = o2)
    (hx0 : w.cell? ⟨g, o, none⟩ = some (.int .u8 K)) (hF : IntKind.u32.wrap (zF : Int) = (zF : Int)) (hE : IntKind.i64.wrap (zE : Int) = iE) (hL : IntKind.i64.wrap (zL : Int) = iL)
    (hst : ((M : Int).tmod 2 == 1) = st) (hwo : (IntKind.u64.wrap ((M : Int) / 2) == 1) = wo) (hks : kb.size < 9223372036854775807) (hr : (⟨kb, zF, vb, iE, zC, iL, st, wo⟩ : It).right = r) :
    Calls Try.prog 15 #[.slice (some ⟨g, o, none⟩) n c] w fun e w' => e = .returned (decV (if r = true then some ⟨kb, zF, vb, iE, zC, iL, st, wo⟩ else none)) ∧ Below w.heap.size w w' := by
  subst e1 e2
  have HRN := hid hRN
  have H12 := hid (And.intro h1 h2)
  obtain ⟨p, q, pq1, pq2, pq3, pq4⟩ := hRN.pq
  obtain ⟨n40, n0, -, -, -, -, c4, -, c16, -, -, -, d1, -, d8, -, -, -, m1, m2, w1, w2, -, -, -, -, -⟩ := hRN
  clear h1 h2
  obtain ⟨hN1, hN8, hN4, hN16, hN24, hN32, hck, hcv⟩ := hRC
  have hri := fun w => ref_right ⟨kb, zF, vb, iE, zC, iL, st, wo⟩ w hks
  rw [hr] at hri
  have HB1 := hid (byts_alloc hb (.cells zero.cells.toArray 25))
  have hy0 := cell_alloc hx0 (.cells zero.cells.toArray 25)
  have HM := hid (rmid_of w ⟨kb, zF, vb, iE, zC, iL, st, wo⟩)
  rw [zero_cells] at hy0 HB1 HM
  simp only [It.v, It.cells] at hri HM
  clear hb hr hx0 hks
  go_enter Try.func15, Try.ntmps15
  go_wp2_with fail
  refine (hN1 _ HB1.out).mono ?_
  rintro e wq ⟨rfl, rfl⟩
  go_wp2_with fail
  refine (hN8 _ HB1.out).mono ?_
  rintro e wq ⟨rfl, rfl⟩
  clear hy0 hN1 hN8
  go_wp2_with fail
  clear n40 n0 c4 c16 d1 d8 m1 m2 w1 w2 pq1 pq2 pq3 pq4
  go_cut [7] from 9 to 76 (fun v wx => v = .pointer (some ⟨w.heap.size + 1, 0, none⟩) ∧ Hid (Mid w ⟨kb, zF, vb, iE, zC, iL, st, wo⟩ wx))
  case first =>
    obtain ⟨h1, h2⟩ := H12.out
    obtain ⟨-, -, HT, H40, cT, cH, -, c8, -, c24, c32, c40, -, d4, -, d16, d24, d32, -, -, w1, w2, w3, w4, w5, w6, -⟩ := HRN.out
    go_region_held3 (fun w' => Hid (Byts w' (.slice (some ⟨g, o, none⟩) n c) l)) (first | exact hid HB1.out.drew | exact rkeep_alloc HB1.out _) (first
      | (go_at_call 24; have hz := hD3; refine Calls.mono (hN32 _ ?_) ?_; (first | exact HB1.out.drew | exact (byts_alloc HB1.out _).drew); rintro e wz ⟨rfl, rfl⟩; have hD4 := True.intro)
      | (go_at_call 24; have hz := hD2; refine Calls.mono (hN24 _ ?_) ?_; (first | exact HB1.out.drew | exact (byts_alloc HB1.out _).drew); rintro e wz ⟨rfl, rfl⟩; have hD3 := True.intro)
      | (go_at_call 24; have hz := hD1; refine Calls.mono (hN16 _ ?_) ?_; (first | exact HB1.out.drew | exact (byts_alloc HB1.out _).drew); rintro e wz ⟨rfl, rfl⟩; have hD2 := True.intro)
      | (go_at_call 24; refine Calls.mono (hN4 _ ?_) ?_; (first | exact HB1.out.drew | exact (byts_alloc HB1.out _).drew); rintro e wz ⟨rfl, rfl⟩; have hD1 := True.intro)
      | fail)
    all_goals
      go_wp2_with fail
      go_meet
      exact ⟨rfl, HM⟩
  case rest =>
    obtain ⟨rfl, HM2⟩ := hcut
    clear hN4 hN16 hN24 hN32 hck hcv HB1 HM
    obtain ⟨q0, q1, q2, q3, q4, q5, q6, q7⟩ := box_cells HM2.out.item
    go_wp2_with fail
    refine (hri _).mono ?_
    rintro e w5 ⟨rfl, b5⟩
    clear q0 q1 q2 q3 q4 q5 q6 q7 hri
    have hM5 := HM2.out.next b5
    clear b5 HM2
    obtain ⟨q0, q1, q2, q3, q4, q5, q6, q7⟩ := box_cells hM5.item
    obtain ⟨r0, r1, r2, r3, r4, r5, r6, r7⟩ := box_cells hM5.res
    have s0 := hM5.res.frozen 0
    have s1 := hM5.res.frozen 1
    have s2 := hM5.res.frozen 2
    have s3 := hM5.res.frozen 3
    have s4 := hM5.res.frozen 4
    have s5 := hM5.res.frozen 5
    have s6 := hM5.res.frozen 6
    have s7 := hM5.res.frozen 7
    have HM5 := hid hM5
    clear hM5
    cases r with
    | false =>
      go_wp2_with fail
      refine bodyPost_ret (res_item (x := zero) (R := w.heap.size) rfl (setItem_blk zero HM5.out.res) rfl rfl) rfl ?_
      exact ⟨rfl, setItem_below zero HM5.out.below (Nat.le_refl _)⟩
    | true =>
      go_wp2_with fail
      refine bodyPost_ret (res_item (x := ⟨kb, zF, vb, iE, zC, iL, st, wo⟩) (R := w.heap.size) rfl (setItem_blk ⟨kb, zF, vb, iE, zC, iL, st, wo⟩ HM5.out.res) rfl rfl) rfl ?_
      exact ⟨rfl, setItem_below ⟨kb, zF, vb, iE, zC, iL, st, wo⟩ HM5.out.below (Nat.le_refl _)⟩
end Go.Proofs.Ytdbaldkinjdeaaa
