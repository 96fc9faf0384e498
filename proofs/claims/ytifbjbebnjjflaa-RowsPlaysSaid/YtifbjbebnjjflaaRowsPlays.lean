/-
  Each call answers what the document says: the statement, walked. No conditions.
-/
import Derived.Test.YtifbjbebnjjflaaRowsTwo
import Derived.Deep.CutBlock
namespace Go.Proofs.Ytifbjbebnjjflaa
open Go Go.RowKit Go.Lib

/-- What the step's box holds. -/
def Bx (X : Nat) (rr zz : Int) (w : World) : Prop := w.cell? ⟨X, 1, none⟩ = some (.int .i64 rr) ∧ w.cell? ⟨X, 2, none⟩ = some (.int .i64 zz)
theorem Bx.only {X : Nat} {rr zz : Int} {w w' : World} {D : Nat → Prop} (h : Bx X rr zz w) (ho : Only D w w') (hd : ¬ D X) : Bx X rr zz w' :=
  ⟨(ho.cell (p := ⟨X, 1, none⟩) (cell_lt h.1) hd).trans h.1, (ho.cell (p := ⟨X, 2, none⟩) (cell_lt h.2) hd).trans h.2⟩

set_option maxRecDepth 100000 in
set_option maxHeartbeats 4000000 in
theorem plays_law (q : Int) (q1 : -9223372036854775808 ≤ q) (q2 : q ≤ 9223372036854775807) (a : Option Addr) (n c0 : Nat) (w : World) (hx : Ops w a n) :
    Calls Try.prog 3 #[.int .i64 q, .slice a n c0] w fun e w' => e = .returned (.bool true) ∧ Below w.heap.size w w' := by
  have hX := hid hx
  clear hx
  by_cases hq : 1 ≤ q ∧ q ≤ 8
  · obtain ⟨m, rfl⟩ : ∃ m : Nat, q = m := ⟨q.toNat, by omega⟩
    have m1 : 1 ≤ m := by omega
    have m8 : m ≤ 8 := by omega
    clear hq q1 q2
    go_enter Try.func3, Try.ntmps3
    go_wp2_with fail
    refine (shown_any w).mono ?_
    rintro e w1 ⟨rfl, b1⟩
    go_wp2_with fail
    refine (at_new m m1 m8 w1).mono ?_
    rintro e w2 ⟨P, F, rfl, h2, b2, f2⟩
    go_wp2_with fail
    refine (qnew_any m m1 m8 w2).mono ?_
    rintro e w3 ⟨Q, R, vs, rfl, h3, b3, f3⟩
    have HT := hid (two_new h2 b2 f2 h3 b3 f3)
    clear h2 b2 f2 h3 b3 f3
    go_wp2_with fail
    go_loopw [8] (fun p wr => ∃ (i : Nat) (L : List (List Int)), p = .int .i64 i ∧ i ≤ 200 ∧ i ≤ n ∧ Hid (L.length = m) ∧ Hid (Two w1 P Q L L (fun _ => False) wr)) (fun p _ => 200 - (RowKit.intOf p).toNat)
    case atStart => exact ⟨0, _, rfl, Nat.zero_le _, Nat.zero_le _, hid (by rw [List.length_replicate]), HT⟩
    case round =>
      obtain ⟨i, L, rfl, hi, hin, hL, hTr⟩ := hrel
      clear HT
      by_cases hlt : i < n ∧ i < 200
      · obtain ⟨l1, l2⟩ := hlt
        obtain ⟨B, o, kd, rr, zz, rfl, hO⟩ := hX.out i l1
        have hb2 := Below.then b1 hTr.out.below
        have c0' := (hb2.cell (p := ⟨B, o + i * 3, none⟩) hO.lt).trans hO.e0
        have c1 := (hb2.cell (p := ⟨B, o + i * 3 + 1, none⟩) hO.lt).trans hO.e1
        have c2 := (hb2.cell (p := ⟨B, o + i * 3 + 2, none⟩) hO.lt).trans hO.e2
        have hRZ := hid hO.rz
        have hBX := hid (Blk.new wr #[.int .i64 kd, .int .i64 rr, .int .i64 zz] 29)
        have hTA := hid (hTr.out.more (H' := fun x => x = wr.heap.size) ((Below.refl _ _).alloc (Nat.le_refl _) (.cells #[.int .i64 kd, .int .i64 rr, .int .i64 zz] 29)) (fun x hx => .inr (by rw [hx]; simp)))
        have hXb : w1.heap.size ≤ wr.heap.size := hTr.out.below.size
        clear hO hb2 hTr
        go_upto_block 2 with fail
        have hx0 : (wr.alloc (.cells #[.int .i64 kd, .int .i64 rr, .int .i64 zz] 29)).drew.cell? ⟨wr.heap.size, 1, none⟩ = some (.int .i64 rr) ∧ (wr.alloc (.cells #[.int .i64 kd, .int .i64 rr, .int .i64 zz] 29)).drew.cell? ⟨wr.heap.size, 2, none⟩ = some (.int .i64 zz) := ⟨hBX.out.cell (i := 1) rfl, hBX.out.cell (i := 2) rfl⟩
        have x0 := hBX.out.cell (i := 0) rfl
        have hT0 := hid (hTA.out.after (Below.refl _ _).drew)
        clear hTA hBX c0' c1 c2
        generalize wr.alloc (.cells #[.int .i64 kd, .int .i64 rr, .int .i64 zz] 29) = w4 at *
        generalize wr.heap.size = X at *
        go_cut [10] from 35 to 153 (fun ok wx => ok = .bool true ∧ Hid (wx.cell? ⟨X, 1, none⟩ = some (.int .i64 rr) ∧ wx.cell? ⟨X, 2, none⟩ = some (.int .i64 zz)) ∧ ∃ L', Hid (L'.length = m) ∧ Hid (Two w1 P Q L' L' (fun x => x = X) wx))
        case first =>
          by_cases k1 : kd = 1
          · subst k1
            have HP : Hid (∀ M W, Two w1 P Q L M (fun x => x = X) W → (W.cell? ⟨X, 1, none⟩ = some (.int .i64 rr) ∧ W.cell? ⟨X, 2, none⟩ = some (.int .i64 zz)) → Calls Try.prog 11 #[.pointer (some ⟨P, 0, none⟩), .int .i64 rr, .int .i64 zz] W fun e w' => e = .returned (.bool (decide (May L.length rr zz))) ∧ Hid (Two w1 P Q (opFront L rr zz) M (fun x => x = X) w') ∧ (w'.cell? ⟨X, 1, none⟩ = some (.int .i64 rr) ∧ w'.cell? ⟨X, 2, none⟩ = some (.int .i64 zz))) := hid (fun M W h hb =>
              (two_front_l h rr zz hRZ.out.2).mono fun _ _ ⟨he, k1, D, d1, d2⟩ => ⟨he, hid k1, Bx.only hb d1 (d2 X rfl)⟩)
            have HR : Hid (∀ L1 W, Two w1 P Q L1 L (fun x => x = X) W → (W.cell? ⟨X, 1, none⟩ = some (.int .i64 rr) ∧ W.cell? ⟨X, 2, none⟩ = some (.int .i64 zz)) → Calls Try.prog 12 #[.pointer (some ⟨Q, 0, none⟩), .int .i64 rr, .int .i64 zz] W fun e w' => e = .returned (.bool (decide (May L.length rr zz))) ∧ Hid (Two w1 P Q L1 (opFront L rr zz) (fun x => x = X) w') ∧ (w'.cell? ⟨X, 1, none⟩ = some (.int .i64 rr) ∧ w'.cell? ⟨X, 2, none⟩ = some (.int .i64 zz))) := hid (fun L1 W h hb =>
              (two_front_r h rr zz).mono fun _ _ ⟨he, k1, D, d1, d2⟩ => ⟨he, hid k1, Bx.only hb d1 (d2 X rfl)⟩)
            have hlen : Hid ((opFront L rr zz).length = m) := hid (by rw [opFront_len]; exact hL.out)
            generalize decide (May L.length rr zz) = A at *
            go_wp2_with fail
            go_region_held3 (fun w' => w'.cell? ⟨X, 1, none⟩ = some (.int .i64 rr) ∧ w'.cell? ⟨X, 2, none⟩ = some (.int .i64 zz)) (first | exact hxj1 | exact hxi1 | exact hx0) (first
              | (go_at_call 11; refine (HP.out _ _ hr2.out hxi1).mono ?_; rintro e w6 ⟨rfl, hst, hxj1⟩)
              | (go_at_call 11; refine (HP.out _ _ hT0.out hx0).mono ?_; rintro e w5 ⟨rfl, hm2, hxi1⟩)
              | (go_at_call 12; refine (HR.out _ _ hm2.out hxi1).mono ?_; rintro e w6 ⟨rfl, hst, hxj1⟩)
              | (go_at_call 12; refine (HR.out _ _ hT0.out hx0).mono ?_; rintro e w5 ⟨rfl, hr2, hxi1⟩))
            all_goals
              clear HP HR
              go_wp2_with fail
              go_meet
              exact ⟨by simp, hid hxj1, _, hlen, hst⟩
          · have n1 : (kd == 1) = false := by simpa using k1
            by_cases k2 : kd = 2
            · subst k2
              have HP : Hid (∀ M W, Two w1 P Q L M (fun x => x = X) W → (W.cell? ⟨X, 1, none⟩ = some (.int .i64 rr) ∧ W.cell? ⟨X, 2, none⟩ = some (.int .i64 zz)) → Calls Try.prog 13 #[.pointer (some ⟨P, 0, none⟩), .int .i64 rr, .int .i64 zz] W fun e w' => e = .returned (.bool (decide (May L.length rr zz))) ∧ Hid (Two w1 P Q (opBack L rr zz) M (fun x => x = X) w') ∧ (w'.cell? ⟨X, 1, none⟩ = some (.int .i64 rr) ∧ w'.cell? ⟨X, 2, none⟩ = some (.int .i64 zz))) := hid (fun M W h hb =>
                (two_back_l h rr zz hRZ.out.2).mono fun _ _ ⟨he, k1, D, d1, d2⟩ => ⟨he, hid k1, Bx.only hb d1 (d2 X rfl)⟩)
              have HR : Hid (∀ L1 W, Two w1 P Q L1 L (fun x => x = X) W → (W.cell? ⟨X, 1, none⟩ = some (.int .i64 rr) ∧ W.cell? ⟨X, 2, none⟩ = some (.int .i64 zz)) → Calls Try.prog 14 #[.pointer (some ⟨Q, 0, none⟩), .int .i64 rr, .int .i64 zz] W fun e w' => e = .returned (.bool (decide (May L.length rr zz))) ∧ Hid (Two w1 P Q L1 (opBack L rr zz) (fun x => x = X) w') ∧ (w'.cell? ⟨X, 1, none⟩ = some (.int .i64 rr) ∧ w'.cell? ⟨X, 2, none⟩ = some (.int .i64 zz))) := hid (fun L1 W h hb =>
                (two_back_r h rr zz).mono fun _ _ ⟨he, k1, D, d1, d2⟩ => ⟨he, hid k1, Bx.only hb d1 (d2 X rfl)⟩)
              have hlen : Hid ((opBack L rr zz).length = m) := hid (by rw [opBack_len]; exact hL.out)
              generalize decide (May L.length rr zz) = A at *
              go_wp2_with fail
              go_region_held3 (fun w' => w'.cell? ⟨X, 1, none⟩ = some (.int .i64 rr) ∧ w'.cell? ⟨X, 2, none⟩ = some (.int .i64 zz)) (first | exact hxj1 | exact hxi1 | exact hx0) (first
                | (go_at_call 13; refine (HP.out _ _ hr2.out hxi1).mono ?_; rintro e w6 ⟨rfl, hst, hxj1⟩)
                | (go_at_call 13; refine (HP.out _ _ hT0.out hx0).mono ?_; rintro e w5 ⟨rfl, hm2, hxi1⟩)
                | (go_at_call 14; refine (HR.out _ _ hm2.out hxi1).mono ?_; rintro e w6 ⟨rfl, hst, hxj1⟩)
                | (go_at_call 14; refine (HR.out _ _ hT0.out hx0).mono ?_; rintro e w5 ⟨rfl, hr2, hxi1⟩))
              all_goals
                clear HP HR
                go_wp2_with fail
                go_meet
                exact ⟨by simp, hid hxj1, _, hlen, hst⟩
            · have n2 : (kd == 2) = false := by simpa using k2
              clear k1 k2
              have HP : Hid (∀ M W, Two w1 P Q L M (fun x => x = X) W → (W.cell? ⟨X, 1, none⟩ = some (.int .i64 rr) ∧ W.cell? ⟨X, 2, none⟩ = some (.int .i64 zz)) → Calls Try.prog 15 #[.pointer (some ⟨P, 0, none⟩), .int .i64 zz] W fun e w' => e = .returned (.bool ((rowOf L zz).isSome)) ∧ Hid (Two w1 P Q (takeL L zz) M (fun x => x = X) w') ∧ (w'.cell? ⟨X, 1, none⟩ = some (.int .i64 rr) ∧ w'.cell? ⟨X, 2, none⟩ = some (.int .i64 zz))) := hid (fun M W h hb =>
                (two_take_l h zz hRZ.out.2).mono fun _ _ ⟨he, k1, D, d1, d2⟩ => ⟨he, hid k1, Bx.only hb d1 (d2 X rfl)⟩)
              have HR : Hid (∀ L1 W, Two w1 P Q L1 L (fun x => x = X) W → (W.cell? ⟨X, 1, none⟩ = some (.int .i64 rr) ∧ W.cell? ⟨X, 2, none⟩ = some (.int .i64 zz)) → Calls Try.prog 16 #[.pointer (some ⟨Q, 0, none⟩), .int .i64 zz] W fun e w' => e = .returned (.bool ((rowOf L zz).isSome)) ∧ Hid (Two w1 P Q L1 (takeL L zz) (fun x => x = X) w') ∧ (w'.cell? ⟨X, 1, none⟩ = some (.int .i64 rr) ∧ w'.cell? ⟨X, 2, none⟩ = some (.int .i64 zz))) := hid (fun L1 W h hb =>
                (two_take_r h zz).mono fun _ _ ⟨he, k1, D, d1, d2⟩ => ⟨he, hid k1, Bx.only hb d1 (d2 X rfl)⟩)
              have hlen : Hid ((takeL L zz).length = m) := hid (by rw [takeL_len]; exact hL.out)
              generalize (rowOf L zz).isSome = A at *
              go_wp2_with fail
              go_region_held3 (fun w' => w'.cell? ⟨X, 1, none⟩ = some (.int .i64 rr) ∧ w'.cell? ⟨X, 2, none⟩ = some (.int .i64 zz)) (first | exact hxj1 | exact hxi1 | exact hx0) (first
                | (go_at_call 15; refine (HP.out _ _ hr2.out hxi1).mono ?_; rintro e w6 ⟨rfl, hst, hxj1⟩)
                | (go_at_call 15; refine (HP.out _ _ hT0.out hx0).mono ?_; rintro e w5 ⟨rfl, hm2, hxi1⟩)
                | (go_at_call 16; refine (HR.out _ _ hm2.out hxi1).mono ?_; rintro e w6 ⟨rfl, hst, hxj1⟩)
                | (go_at_call 16; refine (HR.out _ _ hT0.out hx0).mono ?_; rintro e w5 ⟨rfl, hr2, hxi1⟩))
              all_goals
                clear HP HR
                go_wp2_with fail
                go_meet
                exact ⟨by simp, hid hxj1, _, hlen, hst⟩
        case rest =>
        obtain ⟨rfl, hxw, L', hL', hT'⟩ := hcut
        have hro : ∀ k, Calls Try.prog 17 #[.pointer (some ⟨P, 0, none⟩), .int .i64 zz] (wc.drewN k) fun e w' => e = .returned (.int .i64 (rv (rowOf L' zz))) ∧ ∃ j, w' = wc.drewN j := fun k =>
          (two_row_l (w := wc.drewN k) (hT'.out.after (drewn_below (Below.refl _ _) k)) zz hRZ.out.2).mono fun e w' ⟨h1, h2⟩ => ⟨h1, k, h2.symm⟩
        have hqo : ∀ k, Calls Try.prog 18 #[.pointer (some ⟨Q, 0, none⟩), .int .i64 zz] (wc.drewN k) fun e w' => e = .returned (.int .i64 (rv (rowOf L' zz))) ∧ ∃ j, w' = wc.drewN j := fun k =>
          (two_row_r (w := wc.drewN k) (hT'.out.after (drewn_below (Below.refl _ _) k)) zz).mono fun e w' ⟨h1, h2⟩ => ⟨h1, k, h2.symm⟩
        obtain ⟨xc1, xc2⟩ := hxw.out
        have HTq := hid (fun k => (hT'.out.after (drewn_below (Below.refl wc.heap.size wc) k)).more (H' := fun _ => False) (Below.refl _ _) (fun _ hx => hx.elim))
        generalize rv (rowOf L' zz) = V at *
        clear hT' hT0 hx0 x0 hxw
        go_wp2_with fail
        go_quiet (first | exact hro _ | exact hqo _)
        have HT2 := hid (HTq.out nq)
        clear hro hqo HTq xc1 xc2
        go_wp2_with fail
        go_loopw [11] (fun p wr => ∃ t : Nat, p = .int .i64 ((t : Int) - 1) ∧ t ≤ m + 2 ∧ Hid (Two w1 P Q L' L' (fun _ => False) wr)) (fun p _ => ((m : Int) + 1 - RowKit.intOf p).toNat)
        case atStart => exact ⟨0, rfl, Nat.zero_le _, HT2⟩
        case round =>
          obtain ⟨t, rfl, ht, hTr⟩ := hrel
          clear HT2
          by_cases hle : t ≤ m + 1
          · have hall := two_all_l hTr.out ((t : Int) - 1)
            have hqal := fun w5 (h : Two w1 P Q L' L' (fun _ => False) w5) => two_all_r h ((t : Int) - 1)
            have hlb := row_le hTr.out.good ((t : Int) - 1)
            have hll := fun w5 (h : Two w1 P Q L' L' (fun _ => False) w5) => two_len_l h ((t : Int) - 1)
            have hlr := fun w5 (h : Two w1 P Q L' L' (fun _ => False) w5) => two_len_r h ((t : Int) - 1)
            have hfl := fun w5 (h : Two w1 P Q L' L' (fun _ => False) w5) => two_first_l h ((t : Int) - 1)
            have hfr := fun w5 (h : Two w1 P Q L' L' (fun _ => False) w5) => two_first_r h ((t : Int) - 1)
            have hal := fun w5 (h : Two w1 P Q L' L' (fun _ => False) w5) => two_last_l h ((t : Int) - 1)
            have har := fun w5 (h : Two w1 P Q L' L' (fun _ => False) w5) => two_last_r h ((t : Int) - 1)
            have hTb := hTr.out.below.size
            generalize rowAt L' ((t : Int) - 1) = xs at *
            have HQ := hid hqal
            have HC := hid (And.intro hll (And.intro hlr (And.intro hfl (And.intro hfr (And.intro hal har)))))
            clear hqal hll hlr hfl hfr hal har
            have hk1 : (t : Int) - 1 ≤ (m : Int) := by omega
            go_wp2_with fail
            refine hall.mono ?_
            rintro e w5 ⟨v1, rfl, o1, b5⟩
            have hT5 := hid (hTr.out.after b5)
            have hT6 := hid (hTr.out.more (H' := fun x => v1.ownBlock = some x) b5 (fun x hx => .inr (own_base_le o1 hx)))
            have hqa := HQ.out w5 hT5.out
            obtain ⟨a1, d1, rfl⟩ := row_form o1
            clear hall hTr HQ b5
            generalize _root_.Array.size (World.heap wr) = B0 at *
            go_wp2_with fail
            refine hqa.mono ?_
            rintro e w6 ⟨v2, rfl, o2, rfl⟩
            obtain ⟨a2, d2, rfl⟩ := row_form o2
            have hsm := same_any hlb o1 o2
            have HO1 := hid o1
            clear hqa o1 o2
            go_wp2_with fail
            refine hsm.mono ?_
            rintro e w7 ⟨rfl, b7⟩
            have hT7 := hid (hT5.out.after b7)
            have hT8 := hid (hT6.out.after b7)
            have HO7 := hid (own_only HO1.out (Below.only (D := fun _ => False) b7) (fun _ _ => id))
            clear hsm b7 HO1 hT5 hT6
            have cA := HC.out.1 w7 hT7.out
            have cB := HC.out.2.1 w7 hT7.out
            have cC := HC.out.2.2.1 w7 hT7.out
            have cD := HC.out.2.2.2.1 w7 hT7.out
            have cE := HC.out.2.2.2.2.1 w7 hT7.out
            have cF := HC.out.2.2.2.2.2 w7 hT7.out
            generalize firstOf xs = V1 at *
            generalize lastOf xs = V2 at *
            clear HC hT7
            generalize ic xs = cs at *
            generalize xs.length = K at *
            go_wp2_with fail
            refine cA.mono ?_
            rintro e w8 ⟨rfl, rfl⟩
            clear cA
            go_wp2_with fail
            refine cB.mono ?_
            rintro e w8 ⟨rfl, rfl⟩
            clear cB
            go_wp2_with fail
            refine cC.mono ?_
            rintro e w8 ⟨rfl, rfl⟩
            clear cC
            go_wp2_with fail
            refine cD.mono ?_
            rintro e w8 ⟨rfl, rfl⟩
            clear cD
            go_wp2_with fail
            refine cE.mono ?_
            rintro e w8 ⟨rfl, rfl⟩
            clear cE
            go_wp2_with fail
            refine cF.mono ?_
            rintro e w8 ⟨rfl, rfl⟩
            clear cF
            have HTa := hT8
            have HOa := HO7
            clear hT8 HO7
            go_wp2_with fail
            go_loopw [14] (fun p wr => ∃ (j : Nat) (cs : List Value), p = .int .i64 j ∧ j ≤ K ∧ Hid (wr.ownsRow B0 3 1 (.slice a1 K d1) K cs) ∧ Hid (Two w1 P Q L' L' (fun x => (Value.slice a1 K d1).ownBlock = some x) wr)) (fun p _ => K - (RowKit.intOf p).toNat)
            case atStart => exact ⟨0, cs, rfl, Nat.zero_le _, HOa, HTa⟩
            case round =>
              obtain ⟨j, cs, rfl, hj, hO, hTr⟩ := hrel
              clear HTa HOa
              by_cases hlt : j < K
              · obtain ⟨g, cap, hv, _, hgb, _⟩ := row_pos hO.out (by omega)
                cases hv
                have hf := hO.out.frozenAt j
                have hcl := hO.out.cellAt j (by omega)
                obtain ⟨u, hu⟩ : ∃ u, cs[j]? = some u := ⟨_, List.getElem?_eq_getElem (by have := hO.out.1; omega)⟩
                rw [hu] at hcl
                have hst := hid (World.ownsRow.stored hO.out j (.int .i64 (-9))).1
                have hT2 := hid (hTr.out.turn (w' := _root_.Go.World.setCell _ ⟨g, j, none⟩ (.int .i64 (-9))) (Only.setCell (D := fun x => (Value.slice (some ⟨g, 0, none⟩) K d1).ownBlock = some x) (Only.refl _ _) (p := ⟨g, j, none⟩) (.inl rfl) _) (fun x hx => Nat.le_trans hTb (own_base_le hO.out hx).1))
                clear hO hTr hu
                go_wp2_with fail
                go_roundw
                case rel => exact ⟨j + 1, _, by go_num, by omega, hst, hT2⟩
                case measure => simp [RowKit.intOf] <;> omega
              · obtain rfl : j = K := by omega
                have hT2 := hid (hTr.out.more (H' := fun _ => False) (Below.refl _ _) (fun _ hx => hx.elim))
                clear hTr hO
                go_wp2_with fail
                go_roundw
                case rel => exact ⟨t + 1, by go_num, by omega, hT2⟩
                case measure => simp only [RowKit.intOf]; omega
          · obtain rfl : t = m + 2 := by omega
            have hT2 := hid (hTr.out.more (H' := fun _ => False) (Below.refl _ _) (fun _ hx => hx.elim))
            clear hTr
            go_wp2_with fail
            go_roundw
            case rel => exact ⟨i + 1, L', by go_num, by omega, by omega, hL', hT2⟩
            case measure => simp [RowKit.intOf] <;> omega
      · have hstop : (n : Int) ≤ (i : Int) ∨ ((i : Int) < (n : Int) ∧ (200 : Int) ≤ (i : Int)) := by omega
        have HB := hid (Below.then b1 hTr.out.below)
        clear hlt hTr
        rcases hstop with h0 | ⟨h0, h0'⟩
        all_goals
          go_wp2_with fail
          go_ret
          exact ⟨rfl, HB.out⟩
  · have hn1 := fun w2 => new_bad q hq w2
    have hn2 := fun w2 => qnew_bad q hq w2
    clear hq
    go_enter Try.func3, Try.ntmps3
    go_wp2_with fail
    refine (shown_any w).mono ?_
    rintro e w1 ⟨rfl, b1⟩
    go_wp2_with fail
    refine (hn1 w1).mono ?_
    rintro e w2 ⟨rfl, rfl⟩
    go_wp2_with fail
    refine (hn2 w1).mono ?_
    rintro e w2 ⟨rfl, rfl⟩
    go_wp2_with fail
    go_ret
    exact ⟨rfl, b1⟩
end Go.Proofs.Ytifbjbebnjjflaa
