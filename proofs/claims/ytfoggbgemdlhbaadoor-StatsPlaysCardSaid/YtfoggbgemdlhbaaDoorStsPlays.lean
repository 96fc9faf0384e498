/-
  StatsPlays (S1): what was counted is told line by line as the document's own answer tells it, with a reset anywhere. Conditions: the table that Text reads is laid.
-/
import Derived.Test.YtfoggbgemdlhbaaDoorStsGiven
import Derived.Test.YtfoggbgemdlhbaaDoorStsRefCount
import Derived.Test.YtfoggbgemdlhbaaDoorStsRefLines
import Derived.Test.YtfoggbgemdlhbaaDoorStsResets
import Derived.Deep.DeepCutAuto
namespace Go.Proofs.YtfoggbgemdlhbaaDoor.Sc
open Go Go.RowKit

/-- Both counts, side by side, of the call's own. -/
structure Both (W : World) (P R : Nat) (f : Nat → Nat) (w : World) : Prop where
  p : SP P f w
  r : SR R f w
  ne : P ≠ R
  lp : W.heap.size ≤ P
  lr : W.heap.size ≤ R
  b : Below W.heap.size W w
theorem Both.below {W : World} {P R : Nat} {f : Nat → Nat} {w w' : World} (h : Both W P R f w) (hb : Below w.heap.size w w') : Both W P R f w' :=
  ⟨h.p.below hb, h.r.below hb, h.ne, h.lp, h.lr, h.b.trans (hb.mono h.b.size)⟩
theorem Both.drew {W : World} {P R : Nat} {f : Nat → Nat} {w : World} (h : Both W P R f w) : Both W P R f w.drew := h.below (Below.refl _ _).drew
/-- The program's own has counted. -/
theorem Both.half {W : World} {P R : Nat} {f g : Nat → Nat} {w w' : World} (h : Both W P R f w) (hp : SP P g w') (ho : Only (fun b => b = P) w w') : SP P g w' ∧ SR R f w' ∧ Below W.heap.size W w' :=
  ⟨hp, h.r.only ho (fun e => h.ne e.symm), h.b.trans (only_below ho h.b.size h.lp)⟩
theorem texts_blk {w : World} {A : Nat} {f : Nat → Nat} (h : Blk w A 9 ((lns f).map fun x => .string (S x))) : Texts w (.slice (some ⟨A, 0, none⟩) 18 18) (lns f) := by
  refine ⟨some ⟨A, 0, none⟩, 18, by rw [lns_len], by rw [lns_len]; exact Nat.le_refl _, fun j x hj => ⟨A, 0, rfl, h.lt, ?_⟩⟩
  rw [Nat.zero_add]
  exact h.cell (by rw [List.getElem?_map, hj]; rfl)
theorem texts_own {w : World} {n : Nat} {v : Value} {f : Nat → Nat} (h : w.ownsRow n 9 1 v 18 (cellsOf (lns f))) : Texts w v (lns f) := texts_of_row (by rw [lns_len]; exact h)
set_option maxRecDepth 100000 in
set_option maxHeartbeats 4000000 in
theorem plays_law (a0 : Option Addr) (n0 c0 : Nat) {W : World} (hT0 : Cms W a0 n0) (a1 : Option Addr) (n1 c1 : Nat) (zs : List Int) (hn : zs.length = n1) (hI : Ints W (.slice a1 n1 c1) zs)
    (a2 : Option Addr) (n2 c2 : Nat) (ys : List Int) (hn2 : ys.length = n2) (hI2 : Ints W (.slice a2 n2 c2) ys) (rs : Int) (hv : Nu.TabV W) :
    Calls Tryd.prog 3 #[.slice a0 n0 c0, .slice a1 n1 c1, .slice a2 n2 c2, .int .i64 rs] W fun e w' => e = .returned (.bool true) ∧ Below W.heap.size W w' := by
  have hs := shown_any W hv
  have HV : Hid (∀ X, Below W.heap.size W X → Nu.TabV X) := hidc (fun X hb => hv.below hb)
  have HT := hidc (fun X (hb : Below W.heap.size W X) => hT0.below hb)
  have HI := hidc (fun X (hb : Below W.heap.size W X) => hI.below hb)
  have HI2 := hidc (fun X (hb : Below W.heap.size W X) => hI2.below hb)
  have HN := hidc hn
  have HN2 := hidc hn2
  clear hv hT0 hI hn hI2 hn2
  go_enter Tryd.func3, Tryd.ntmps3
  go_wp2_with fail
  refine hs.mono ?_
  rintro e w1 ⟨rfl, b1⟩
  have hnw := new_any w1
  clear hs
  go_wp2_with fail
  refine hnw.mono ?_
  rintro e w2 ⟨rfl, h2, b2⟩
  have B2 := b1.trans (b2.mono b1.size)
  have hP : W.heap.size ≤ w1.heap.size := b1.size
  have hl2 := h2.2.lt
  have HB := hidc (show ∀ w3, w2.alloc (.cells (rc none0).toArray 31) = w3 → Both W w1.heap.size w2.heap.size none0 w3 from by
    rintro w3 rfl
    have b3 : Below w2.heap.size w2 (w2.alloc (.cells (rc none0).toArray 31)) := (Below.refl _ w2).alloc (Nat.le_refl _) _
    exact ⟨h2.below b3, ⟨ok0, Blk.new w2 _ _⟩, by omega, hP, by have := B2.size; omega, B2.trans (b3.mono B2.size)⟩)
  clear hnw b1 b2 h2 B2
  generalize w1.heap.size = P at *
  generalize hR : w2.heap.size = R at *
  unfold rc u none0 at HB
  --WALK
  go_wp2_with fail
  have hB := HB.out _ rfl
  clear HB hR hl2 hP
  generalize w2.alloc _ = w3 at *
  go_loopw [12] (fun v wr => ∃ (k : Nat) (f : Nat → Nat), v = .int .i64 k ∧ k ≤ 200 ∧ Both W P R f wr) (fun v _ => 200 - (intOf v).toNat)
  case atStart => exact ⟨0, _, rfl, by omega, hB⟩
  case round =>
    clear hB
    obtain ⟨k, f, rfl, hk, hf⟩ := hrel
    by_cases hlt : k < n0 ∧ k < n1 ∧ k < 200
    · obtain ⟨l0, l1, l2⟩ := hlt
      obtain ⟨z, hz⟩ : ∃ z, zs[k]? = some z := ⟨_, List.getElem?_eq_getElem (by rw [HN.out]; exact l1)⟩
      have i0 : (k : Int) < (n0 : Int) := by omega
      have i1 : (k : Int) < (n1 : Int) := by omega
      have i2 : (k : Int) < 200 := by omega
      have ge : (0 : Int) ≤ (k : Int) := by omega
      go_upto_if 46 with fail
      go_cut [13] from 46 to 50 (fun v wx => wx = wr ∧ ∃ y : Int, v = .int .i64 y ∧ Hid (y ≤ 9223372036854775807))
      case first =>
        by_cases hy : k < n2
        · obtain ⟨y, hyy⟩ : ∃ y, ys[k]? = some y := ⟨_, List.getElem?_eq_getElem (by rw [HN2.out]; exact hy)⟩
          obtain ⟨a2', c2', hv2, hx2⟩ := HI2.out _ hf.b
          injection hv2 with q1 q2 q3
          obtain ⟨hyr, B2, o2, q4, hB2, hc2⟩ := hx2 k y hyy
          rw [q4] at q1
          have i3 : (k : Int) < (n2 : Int) := by omega
          subst q1
          clear hx2 hyy q2 q3 q4
          go_wp2_with fail
          go_meet
          exact ⟨rfl, y, rfl, hidc hyr.2⟩
        · have i3 : (n2 : Int) ≤ (k : Int) := by omega
          go_wp2_with fail
          go_meet
          exact ⟨rfl, 0, rfl, hidc (by decide)⟩
      case rest =>
      obtain ⟨rfl, y, rfl, HY⟩ := hcut
      obtain ⟨B0, o0, c, q0, hB0, -, hcells⟩ := HT.out W (Below.refl _ _) k l0
      obtain ⟨a1', c1', hv1, hx1⟩ := HI.out W (Below.refl _ _)
      injection hv1 with q1 q2 q3
      obtain ⟨-, B1, o1, q4, hB1, hc1⟩ := hx1 k z hz
      rw [q4] at q1
      subst q1
      subst q0
      have EC := hidc (show ∀ X, Below W.heap.size W X → ∀ j u, (cc c)[j]? = some u → X.cell? ⟨B0, o0 + k * 16 + j, none⟩ = some u from fun X hX j u hj => (hX.cell (p := ⟨B0, o0 + k * 16 + j, none⟩) hB0).trans (hcells j u hj))
      have EZ := hidc (show ∀ X, Below W.heap.size W X → X.cell? ⟨B1, o1 + k, none⟩ = some (.int .i64 z) from fun X hX => (hX.cell (p := ⟨B1, o1 + k, none⟩) hB1).trans hc1)
      obtain ⟨op, mode, key, val, flags, exp, hasExp, cas, hasCas, delta, init, down, viv, vive, rcc, inv⟩ := c
      clear hx1 q2 q3 q4 hc1 hcells hB0 hB1 hz
      have e0 := EC.out _ hf.b 0 _ rfl
      rw [Nat.add_zero] at e0
      have e1 := EC.out _ hf.b 1 _ rfl
      have e2 := EC.out _ hf.b 2 _ rfl
      have e3 := EC.out _ hf.b 3 _ rfl
      have e4 := EC.out _ hf.b 4 _ rfl
      have e5 := EC.out _ hf.b 5 _ rfl
      have e6 := EC.out _ hf.b 6 _ rfl
      have e7 := EC.out _ hf.b 7 _ rfl
      have e8 := EC.out _ hf.b 8 _ rfl
      have e9 := EC.out _ hf.b 9 _ rfl
      have e10 := EC.out _ hf.b 10 _ rfl
      have e11 := EC.out _ hf.b 11 _ rfl
      have e12 := EC.out _ hf.b 12 _ rfl
      have e13 := EC.out _ hf.b 13 _ rfl
      have e14 := EC.out _ hf.b 14 _ rfl
      have e15 := EC.out _ hf.b 15 _ rfl
      have hc1 := EZ.out _ hf.b
      have cC := count_any (w := wc.drew) (P := P) (f := f) hf.p ⟨op, mode, key, val, flags, exp, hasExp, cas, hasCas, delta, init, down, viv, vive, rcc, inv⟩ z y HY.out
      obtain ⟨g, hg⟩ : ∃ g, cnt f op z hasCas down y = g := ⟨_, rfl⟩
      dsimp only at cC
      have HX := hidc (fun (w4 : World) (hp : SP P g w4) (ho : Only (fun b => b = P) wc.drew w4) => hf.drew.half hp ho)
      have HD := hidc (fun (w4 : World) (hr : SR R f w4) => rcount_any (P := R) (f := f) (w := w4) hr ⟨op, mode, key, val, flags, exp, hasExp, cas, hasCas, delta, init, down, viv, vive, rcc, inv⟩ z y HY.out)
      dsimp only at HD
      rw [hg] at cC
      simp only [hg] at HD
      have HF := hidc (And.intro hf.ne (And.intro hf.lp hf.lr))
      clear hg hf
      unfold cc ac at cC HD
      go_wp2_with fail
      refine region_tail 11 (by kernel_rfl) (by kernel_rfl) ?_
      simp only [List.take_succ_cons, List.take_zero, List.drop_succ_cons, List.drop_zero]
      repeat still_step
      refine wpStill_nil ?_
      clear e0 e1 e2 e3 e4 e5 e6 e7 e8 e9 e10 e11 e12 e13 e14 e15 hc1
      go_wp2_with fail
      refine cC.mono ?_
      rintro e w4 ⟨rfl, h4, o4⟩
      obtain ⟨p4, r4, b4⟩ := HX.out w4 h4 o4
      have hD := HD.out w4.drew r4
      clear cC HX o4 h4 HD
      have e0 := EC.out _ b4 0 _ rfl
      rw [Nat.add_zero] at e0
      have e1 := EC.out _ b4 1 _ rfl
      have e2 := EC.out _ b4 2 _ rfl
      have e3 := EC.out _ b4 3 _ rfl
      have e4 := EC.out _ b4 4 _ rfl
      have e5 := EC.out _ b4 5 _ rfl
      have e6 := EC.out _ b4 6 _ rfl
      have e7 := EC.out _ b4 7 _ rfl
      have e8 := EC.out _ b4 8 _ rfl
      have e9 := EC.out _ b4 9 _ rfl
      have e10 := EC.out _ b4 10 _ rfl
      have e11 := EC.out _ b4 11 _ rfl
      have e12 := EC.out _ b4 12 _ rfl
      have e13 := EC.out _ b4 13 _ rfl
      have e14 := EC.out _ b4 14 _ rfl
      have e15 := EC.out _ b4 15 _ rfl
      have hc1 := EZ.out _ b4
      clear EC EZ
      go_wp2_with fail
      refine region_tail 11 (by kernel_rfl) (by kernel_rfl) ?_
      simp only [List.take_succ_cons, List.take_zero, List.drop_succ_cons, List.drop_zero]
      repeat still_step
      refine wpStill_nil ?_
      clear e0 e1 e2 e3 e4 e5 e6 e7 e8 e9 e10 e11 e12 e13 e14 e15 hc1
      go_wp2_with fail
      refine hD.mono ?_
      rintro e w5 ⟨rfl, r5, o5⟩
      have hf5 : Both W P R g w5 := ⟨(p4.drew).only o5 (fun e => HF.out.1 e), r5, HF.out.1, HF.out.2.1, HF.out.2.2, (b4.trans ((Below.refl _ w4).drew.mono b4.size)).trans (only_below o5 b4.size HF.out.2.2)⟩
      clear hD r4 p4 b4 o5 r5
      go_upto_if 77 with fail
      go_cut [] from 77 to 83 (fun wx => ∃ f', Both W P R f' wx)
      case first =>
        by_cases hr : (k : Int) = rs
        · subst hr
          have hR := reset_any hf5.p
          go_wp2_with fail
          refine hR.mono ?_
          rintro e w6 ⟨rfl, p6, o6⟩
          have b6 := hf5.half p6 o6
          have ht := zeros_there b6.2.1.2 rfl
          have hi : (Tryd.prog.info? 29).map (·.size) = some zeros.toArray.size := by kernel_rfl
          have HZ := hidc (show SR R none0 _ ∧ Only (fun b => b = R) w6 _ from ⟨⟨ok0, (zeros_set b6.2.1.2 rfl).1⟩, (zeros_set b6.2.1.2 rfl).2⟩)
          have HG := hidc (And.intro hf5.ne (And.intro hf5.lp (And.intro hf5.lr (And.intro p6 b6.2.2))))
          clear hR o6 p6 b6 hf5
          go_wp2_with (refine wpList_store_mid rfl _ _ _ rfl R 0 zeros.toArray rfl rfl ht hi zeros_one ?_)
          go_meet
          obtain ⟨g1, g2, g3, g4, g5⟩ := HG.out
          exact ⟨none0, ⟨g4.only HZ.out.2 (fun e => g1 e), HZ.out.1, g1, g2, g3, g5.trans (only_below HZ.out.2 g5.size g3)⟩⟩
        · go_wp2_with fail
          go_meet
          exact ⟨_, hf5⟩
      case rest =>
      obtain ⟨f', hf6⟩ := hcut
      clear HF
      rename World => wd
      obtain ⟨q, hq1, hq2, hqn⟩ : ∃ q : Nat, (k : Int) % 10 = (q : Int) ∧ (k : Int).tmod 10 = (q : Int) ∧ q < 10 := ⟨k % 10, by omega, by rw [Int.tmod_eq_emod_of_nonneg (by omega)]; omega, by omega⟩
      obtain ⟨M, hM⟩ : ∃ M : Int, wrap64 ((n0 : Int) - 1) = M := ⟨_, rfl⟩
      by_cases hgo : ¬ (q : Int) = 9 ∧ ¬ (k : Int) = M
      · have g1 : ((q : Int) != 9) = true := by simp; omega
        have g2 : ((k : Int) != M) = true := by simp [hgo.2]
        clear hgo
        go_wp2_with fail
        go_roundw
        case rel => exact ⟨k + 1, _, by go_num, by omega, hf6⟩
        case measure => simp [intOf] <;> omega
      · have hway : ((q : Int) != 9) = false ∨ (((q : Int) != 9) = true ∧ ((k : Int) != M) = false) := by
          by_cases h9 : (q : Int) = 9
          · exact .inl (by simp [h9])
          · refine .inr ⟨by simp [h9], ?_⟩
            have : (k : Int) = M := Classical.not_not.1 fun h => hgo ⟨h9, h⟩
            simp [this]
        clear hgo
        go_upto_region 17 with fail
        go_cut [93] from 86 to 92 (fun v wx => v = .bool false ∧ wx = wd)
        case first =>
          rcases hway with g1 | ⟨g1, g2⟩
          all_goals
            go_wp2_with fail
            go_meet
            exact ⟨by first | rfl | (rw [g1]) | (rw [g2]), rfl⟩
        case rest =>
        obtain ⟨rfl, rfl⟩ := hcut
        clear hway hq1 hq2 hM
        have hL := lines_any hf6.p (HV.out _ hf6.b)
        go_wp2_with fail
        refine hL.mono ?_
        rintro e w7 ⟨A, rfl, hA, hT7, b7⟩
        have hf7 := hf6.below b7
        have hPA : P ≠ A := fun e => by have := hf6.p.2.lt; omega
        have hRA : R ≠ A := fun e => by have := hf6.r.2.lt; omega
        have hWA : W.heap.size ≤ A := Nat.le_trans hf6.b.size hA
        have hQ := rlines_any hf7.r
        clear hL b7 hf6 hA
        go_wp2_with fail
        refine hQ.mono ?_
        rintro e w8 ⟨v8, rfl, ho8, b8⟩
        have hf8 := hf7.below b8
        have hT8 := hT7.below b8
        have hS := same_texts _ _ (lns f') (by rw [lns_len]; omega) w8 (texts_blk hT8) (texts_own ho8)
        clear hQ hf7 hT7 ho8 b8
        go_wp2_with fail
        refine hS.mono ?_
        rintro e w9 ⟨rfl, b9⟩
        have hf9 := hf8.below b9
        have hT9 := hT8.below b9
        clear hS hf8 hT8 b9
        go_wp2_with fail
        go_loopw [16] (fun v wr => ∃ (j : Nat) (cs : List Value), v = .int .i64 j ∧ j ≤ 18 ∧ Both W P R f' wr ∧ cs.length = 18 ∧ Blk wr A 9 cs) (fun v _ => 18 - (intOf v).toNat)
        case atStart => exact ⟨0, _, rfl, by omega, hf9, by rw [List.length_map, lns_len], hT9⟩
        case round =>
          clear hf9 hT9
          obtain ⟨j, cs, rfl, hj, hfj, hcs, hTj⟩ := hrel
          by_cases hjl : j < 18
          · obtain ⟨x, hx⟩ : ∃ x, cs[j]? = some x := ⟨_, List.getElem?_eq_getElem (by omega)⟩
            have ca := hTj.cell hx
            have fa := hTj.frozen j
            have i4 : (j : Int) < 18 := by omega
            have i5 : (0 : Int) ≤ (j : Int) := by omega
            have HJ := hidc (show Both W P R f' (wr.setCell ⟨A, j, none⟩ (.string ⟨#[63]⟩)) ∧ (cs.set j (.string ⟨#[63]⟩)).length = 18 ∧ Blk (wr.setCell ⟨A, j, none⟩ (.string ⟨#[63]⟩)) A 9 (cs.set j (.string ⟨#[63]⟩)) from
              ⟨⟨⟨hfj.p.1, hfj.p.2.setOther (p := ⟨A, j, none⟩) hPA _⟩, ⟨hfj.r.1, hfj.r.2.setOther (p := ⟨A, j, none⟩) hRA _⟩, hfj.ne, hfj.lp, hfj.lr, hfj.b.trans (only_below ((Only.refl (fun b => b = A) wr).setCell (p := ⟨A, j, none⟩) (.inl rfl) _) hfj.b.size hWA)⟩, by rw [List.length_set]; exact hcs, hTj.set j _⟩)
            clear hTj hfj hx
            go_wp2_with fail
            go_roundw
            case rel => exact ⟨j + 1, _, by go_num, by omega, HJ.out⟩
            case measure => simp [intOf] <;> omega
          · obtain rfl : j = 18 := by omega
            clear hTj
            go_wp2_with fail
            go_roundw
            case rel => exact ⟨k + 1, _, by go_num, by omega, hfj⟩
            case measure => simp [intOf] <;> omega
    · have hstop : (n0 : Int) ≤ (k : Int) ∨ ((k : Int) < (n0 : Int) ∧ (n1 : Int) ≤ (k : Int)) ∨ ((k : Int) < (n0 : Int) ∧ (k : Int) < (n1 : Int) ∧ (200 : Int) ≤ (k : Int)) := by omega
      go_upto_region 7 with fail
      go_cut [40] from 30 to 39 (fun v wx => v = .bool false ∧ wx = wr)
      case first =>
        rcases hstop with h0 | ⟨h0, h0'⟩ | ⟨h0, h0', h0''⟩
        all_goals
          go_wp2_with fail
          go_meet
          exact ⟨by first | rfl | (rw [decide_eq_false (by omega)]), rfl⟩
      case rest =>
      obtain ⟨rfl, rfl⟩ := hcut
      clear hstop hlt
      have hL := lines_any hf.p (HV.out _ hf.b)
      go_wp2_with fail
      refine hL.mono ?_
      rintro e w7 ⟨A, rfl, hA, hT7, b7⟩
      have hf7 := hf.below b7
      have hQ := rlines_any hf7.r
      clear hL b7 hf hA
      go_wp2_with fail
      refine hQ.mono ?_
      rintro e w8 ⟨v8, rfl, ho8, b8⟩
      have hf8 := hf7.below b8
      have hT8 := hT7.below b8
      have hS := same_texts _ _ (lns f) (by rw [lns_len]; omega) w8 (texts_blk hT8) (texts_own ho8)
      clear hQ hf7 hT7 ho8 b8
      go_wp2_with fail
      refine hS.mono ?_
      rintro e w9 ⟨rfl, b9⟩
      have hb9 := (hf8.below b9).b
      go_wp2_with fail
      go_ret
      exact ⟨rfl, hb9⟩
end Go.Proofs.YtfoggbgemdlhbaaDoor.Sc
