/-
  StatsSums (S1): gets are hits and misses, and no more deletes', touches' and tokens' hits and misses are counted than there were such commands. Conditions: the table that Text reads is laid.
-/
import Derived.Test.YtfoggbgemdlhbaaDoorStsGiven
import Derived.Test.YtfoggbgemdlhbaaDoorStsResets
import Derived.Test.YtfoggbgemdlhbaaDoorStsSumsMath
import Derived.Test.YtfoggbgemdlhbaaDoorWordsRef
import Derived.Deep.DeepCutAuto
namespace Go.Proofs.YtfoggbgemdlhbaaDoor.Sc
open Go Go.RowKit

set_option maxRecDepth 100000 in
theorem number_any {A : Nat} {f : Nat → Nat} {w : World} (hA : Blk w A 9 ((lns f).map fun x => .string (S x))) (ho : Ok f) {i : Nat} (hi : i < 18) :
    Calls Tryd.prog 14 #[.slice (some ⟨A, 0, none⟩) 18 18, .int .i64 (i : Int)] w fun e w' => e = .returned (.int .u64 (f i : Int)) ∧ Below w.heap.size w w' := by
  obtain ⟨x, hx, h0, h32, hl⟩ := nm_key hi
  have cA := hA.cell (i := i) (v := .string (S (ln x (f i)))) (by rw [List.getElem?_map, lns_at _ hi, hx]; rfl)
  have hsp := split_ln h0 h32 (f i)
  have hd := Nu.dd_len_le (ho i)
  have hsz : (S (ln x (f i))).size ≤ 1000 := by rw [S_size]; unfold ln; simp; omega
  have hS := fun w => split_any (S (ln x (f i))) (by omega) (by rw [S_list, hsp]; simp) w
  rw [S_list, hsp] at hS
  have hp := fun w => Nu.parse_some (S (Lib.decDigits (f i))) (f i) (by rw [S_list]; exact Nu.parseU_dd (ho i)) w
  have i0 : (i : Int) < 18 := by omega
  have i1 : (0 : Int) ≤ (i : Int) := by omega
  generalize S (ln x (f i)) = s at *
  clear hx h0 h32 hl hsp hd hA ho
  go_enter Tryd.func14, Tryd.ntmps14
  go_wp2_with fail
  refine (hS _).mono ?_
  rintro e w1 ⟨v, rfl, hown, b1⟩
  have hT : Texts w1 v [[83, 84, 65, 84], x, Lib.decDigits (f i)] := texts_of_row hown
  obtain ⟨a, c, rfl, -, hc⟩ := hT
  obtain ⟨B, o, rfl, hB, h2⟩ := hc 2 _ rfl
  clear hc hown hS
  dsimp only [List.length_cons, List.length_nil] at *
  go_wp2_with fail
  refine (hp _).mono ?_
  rintro e w2 ⟨rfl, b2⟩
  go_wp2_with fail
  go_ret
  exact ⟨rfl, Below.then b1 b2⟩
/-- Eight counts. -/
def mc (m : Nat → Nat) : List Value := [u (m 0), u (m 1), u (m 2), u (m 3), u (m 4), u (m 5), u (m 6), u (m 7)]
theorem mc_at (m : Nat → Nat) {i : Nat} (h : i < 8) : (mc m)[i]? = some (u (m i)) := by
  have e : i = 0 ∨ i = 1 ∨ i = 2 ∨ i = 3 ∨ i = 4 ∨ i = 5 ∨ i = 6 ∨ i = 7 := by omega
  rcases e with rfl | rfl | rfl | rfl | rfl | rfl | rfl | rfl <;> rfl
theorem mc_set (m : Nat → Nat) {i : Nat} (h : i < 8) : (mc m).set i (u (m i + 1)) = mc (upm m i) := by
  have e : i = 0 ∨ i = 1 ∨ i = 2 ∨ i = 3 ∨ i = 4 ∨ i = 5 ∨ i = 6 ∨ i = 7 := by omega
  rcases e with rfl | rfl | rfl | rfl | rfl | rfl | rfl | rfl <;> rfl
theorem arr8 : Tryd.prog.arrayLen 44 = 8 := by kernel_rfl
/-- The law's state behind k rounds. -/
structure Sum (W : World) (P N : Nat) (f m : Nat → Nat) (k : Nat) (w : World) : Prop where
  p : SP P f w
  n : Blk w N 44 (mc m)
  ne : P ≠ N
  lp : W.heap.size ≤ P
  ln : W.heap.size ≤ N
  i : Inv f m k
  b : Below W.heap.size W w
theorem Sum.drew {W : World} {P N : Nat} {f m : Nat → Nat} {k : Nat} {w : World} (h : Sum W P N f m k w) : Sum W P N f m k w.drew := ⟨h.p, h.n, h.ne, h.lp, h.ln, h.i, h.b.trans ((Below.refl _ w).drew.mono h.b.size)⟩
theorem loss0 (f : Nat → Nat) : loss f 0 = f := if_neg (by decide)
set_option maxRecDepth 100000 in
set_option maxHeartbeats 4000000 in
theorem sums_law (a0 : Option Addr) (n0 c0 : Nat) {W : World} (hT0 : Cms W a0 n0) (a1 : Option Addr) (n1 c1 : Nat) (zs : List Int) (hn : zs.length = n1) (hI : Ints W (.slice a1 n1 c1) zs) (hv : Nu.TabV W) :
    Calls Tryd.prog 4 #[.slice a0 n0 c0, .slice a1 n1 c1] W fun e w' => e = .returned (.bool true) ∧ Below W.heap.size W w' := by
  have hs := shown_any W hv
  have HV : Hid (∀ X, Below W.heap.size W X → Nu.TabV X) := hidc (fun X hb => hv.below hb)
  have HT := hidc hT0
  have HI := hidc hI
  have HN := hidc hn
  have al := arr8
  clear hv hT0 hI hn
  go_enter Tryd.func4, Tryd.ntmps4
  go_wp2_with fail
  refine hs.mono ?_
  rintro e w1 ⟨rfl, b1⟩
  have hnw := new_any w1
  clear hs
  go_wp2_with fail
  refine hnw.mono ?_
  rintro e w2 ⟨rfl, h2, b2⟩
  have B2 := b1.trans (b2.mono b1.size)
  have hP : W.heap.size ≤ w1.heap.size := b1.size
  have hl2 := h2.2.lt
  have HB := hidc (show ∀ w3, w2.alloc (.cells (mc none0).toArray 44) = w3 → Sum W w1.heap.size w2.heap.size none0 none0 0 w3 from by
    rintro w3 rfl
    have b3 : Below w2.heap.size w2 (w2.alloc (.cells (mc none0).toArray 44)) := (Below.refl _ w2).alloc (Nat.le_refl _) _
    exact ⟨h2.below b3, Blk.new w2 _ _, by omega, hP, by have := B2.size; omega, inv0, B2.trans (b3.mono B2.size)⟩)
  clear hnw b1 b2 h2 B2
  generalize w1.heap.size = P at *
  generalize hR : w2.heap.size = N at *
  unfold mc u none0 at HB
  go_wp2_with fail
  have hB := HB.out _ rfl
  clear HB hR hl2 hP
  generalize w2.alloc _ = w3 at *
  go_loopw [8] (fun v wr => ∃ (k : Nat) (f m : Nat → Nat), v = .int .i64 k ∧ k ≤ 200 ∧ Sum W P N f m k wr) (fun v _ => 200 - (intOf v).toNat)
  case atStart => exact ⟨0, _, _, rfl, by omega, hB⟩
  case round =>
    clear hB
    obtain ⟨k, f, m, rfl, hk, hf⟩ := hrel
    by_cases hlt : k < n0 ∧ k < n1 ∧ k < 200
    · obtain ⟨l0, l1, l2⟩ := hlt
      obtain ⟨z, hz⟩ : ∃ z, zs[k]? = some z := ⟨_, List.getElem?_eq_getElem (by rw [HN.out]; exact l1)⟩
      have i0 : (k : Int) < (n0 : Int) := by omega
      have i1 : (k : Int) < (n1 : Int) := by omega
      have i2 : (k : Int) < 200 := by omega
      have ge : (0 : Int) ≤ (k : Int) := by omega
      obtain ⟨B0, o0, c, q0, hB0, -, hcells⟩ := HT.out k l0
      obtain ⟨a1', c1', hv1, hx1⟩ := HI.out
      injection hv1 with q1 q2 q3
      obtain ⟨-, B1, o1, q4, hB1, hc1⟩ := hx1 k z hz
      rw [q4] at q1
      subst q1
      subst q0
      have EC := hidc (show ∀ X, Below W.heap.size W X → ∀ j u, (cc c)[j]? = some u → X.cell? ⟨B0, o0 + k * 16 + j, none⟩ = some u from fun X hX j u hj => (hX.cell (p := ⟨B0, o0 + k * 16 + j, none⟩) hB0).trans (hcells j u hj))
      have EZ := hidc (show ∀ X, Below W.heap.size W X → X.cell? ⟨B1, o1 + k, none⟩ = some (.int .i64 z) from fun X hX => (hX.cell (p := ⟨B1, o1 + k, none⟩) hB1).trans hc1)
      obtain ⟨op, mode, key, val, flags, exp, hasExp, cas, hasCas, delta, init, down, viv, vive, rcc, inv⟩ := c
      clear hx1 q2 q3 q4 hc1 hcells hB0 hB1 hz
      have e0 := EC.out _ hf.b 0 _ rfl
      rw [Nat.add_zero] at e0
      have e1 := EC.out _ hf.b 1 _ rfl
      have e2 := EC.out _ hf.b 2 _ rfl
      have e3 := EC.out _ hf.b 3 _ rfl
      have e4 := EC.out _ hf.b 4 _ rfl
      have e5 := EC.out _ hf.b 5 _ rfl
      have e6 := EC.out _ hf.b 6 _ rfl
      have e7 := EC.out _ hf.b 7 _ rfl
      have e8 := EC.out _ hf.b 8 _ rfl
      have e9 := EC.out _ hf.b 9 _ rfl
      have e10 := EC.out _ hf.b 10 _ rfl
      have e11 := EC.out _ hf.b 11 _ rfl
      have e12 := EC.out _ hf.b 12 _ rfl
      have e13 := EC.out _ hf.b 13 _ rfl
      have e14 := EC.out _ hf.b 14 _ rfl
      have e15 := EC.out _ hf.b 15 _ rfl
      have hc1 := EZ.out _ hf.b
      have cC := count_any (w := wr.drew) (P := P) (f := f) hf.p ⟨op, mode, key, val, flags, exp, hasExp, cas, hasCas, delta, init, down, viv, vive, rcc, inv⟩ z 0 (by decide)
      dsimp only at cC
      have HS := hidc hf
      clear hf
      unfold cc ac at cC
      go_wp2_with fail
      refine region_tail 10 (by kernel_rfl) (by kernel_rfl) ?_
      simp only [List.take_succ_cons, List.take_zero, List.drop_succ_cons, List.drop_zero]
      repeat still_step
      refine wpStill_nil ?_
      clear e0 e1 e2 e3 e4 e5 e6 e7 e8 e9 e10 e11 e12 e13 e14 e15 hc1
      go_wp2_with fail
      refine cC.mono ?_
      rintro e w4 ⟨rfl, h4, o4⟩
      have b4 : Below W.heap.size W w4 := HS.out.drew.b.trans (only_below o4 HS.out.drew.b.size HS.out.lp)
      have n4 : Blk w4 N 44 (mc m) := HS.out.drew.n.only o4 (fun e => HS.out.ne e.symm)
      have e0 := EC.out _ b4 0 _ rfl
      rw [Nat.add_zero] at e0
      have hc1 := EZ.out _ b4
      clear cC o4 EC EZ
      by_cases hst : z < 1 ∨ 12 < z
      · have hS4 := hidc (show Sum W P N f m (k + 1) w4 from ⟨by unfold cnt at h4; rw [if_pos hst] at h4; exact h4, n4, HS.out.ne, HS.out.lp, HS.out.ln, HS.out.i.mono, b4⟩)
        have hst' : ¬ (1 : Int) ≤ z ∨ ((1 : Int) ≤ z ∧ ¬ z ≤ 12) := by omega
        clear h4 n4 hst HS
        go_upto_region 10 with fail
        go_cut [72] from 49 to 71 (fun v wx => v = .bool false ∧ wx = w4)
        case first =>
          rcases hst' with g1 | ⟨g1, g2⟩
          all_goals
            go_wp2_with fail
            go_meet
            exact ⟨by first | rfl | (rw [decide_eq_false (by omega)]), rfl⟩
        case rest =>
        obtain ⟨rfl, rfl⟩ := hcut
        clear hst'
        go_wp2_with fail
        go_roundw
        case rel => exact ⟨k + 1, _, _, by go_num, by omega, hS4.out⟩
        case measure => simp [intOf] <;> omega
      · have g1 : (1 : Int) ≤ z := by omega
        have g2 : z ≤ 12 := by omega
        by_cases hop : op < 0 ∨ 7 < op
        · have hS4 := hidc (show Sum W P N _ m (k + 1) w4 from ⟨by unfold cnt at h4; rw [if_neg hst, loss0] at h4; exact h4, n4, HS.out.ne, HS.out.lp, HS.out.ln, HS.out.i.other op z hasCas down hop, b4⟩)
          have hst' : ¬ (0 : Int) ≤ op ∨ ((0 : Int) ≤ op ∧ ¬ op ≤ 7) := by omega
          clear h4 n4 hst HS hop
          go_upto_region 10 with fail
          go_cut [72] from 49 to 71 (fun v wx => v = .bool false ∧ wx = w4)
          case first =>
            rcases hst' with g3 | ⟨g3, g4⟩
            all_goals
              go_wp2_with fail
              go_meet
              exact ⟨by first | rfl | (rw [decide_eq_false (by omega)]), rfl⟩
          case rest =>
          obtain ⟨rfl, rfl⟩ := hcut
          clear hst'
          go_wp2_with fail
          go_roundw
          case rel => exact ⟨k + 1, _, _, by go_num, by omega, hS4.out⟩
          case measure => simp [intOf] <;> omega
        · obtain ⟨q, rfl⟩ : ∃ q : Nat, op = q := ⟨op.toNat, by omega⟩
          have q8 : q < 8 := by omega
          have g3 : (0 : Int) ≤ (q : Int) := by omega
          have g4 : (q : Int) ≤ 7 := by omega
          have g5 : (q : Int) < 8 := by omega
          have cq := n4.cell (mc_at m q8)
          have fq := n4.frozen q
          unfold u at cq
          have mq := HS.out.i.all q
          have hw : IntKind.u64.wrap ((m q : Int) + 1) = ((m q + 1 : Nat) : Int) := by rw [IntKind.wrap_u64]; omega
          obtain ⟨X, hX⟩ : ∃ X, m q + 1 = X := ⟨_, rfl⟩
          have hset := mc_set m q8
          rw [hX] at hset hw
          have hS4 := hidc (show Sum W P N (opC f q z hasCas down) (upm m q) (k + 1) (w4.setCell ⟨N, q, none⟩ (.int .u64 (X : Int))) from by
            have hg : SP P (opC f q z hasCas down) w4 := by unfold cnt at h4; rw [if_neg hst, loss0] at h4; exact h4
            refine ⟨⟨hg.1, hg.2.setOther (p := ⟨N, q, none⟩) HS.out.ne _⟩, by rw [← hset]; exact n4.set q _, HS.out.ne, HS.out.lp, HS.out.ln, HS.out.i.step l2 q z hasCas down, b4.trans (only_below ((Only.refl (fun b => b = N) w4).setCell (p := ⟨N, q, none⟩) (.inl rfl) _) b4.size HS.out.ln)⟩)
          clear h4 n4 hst HS hop mq hset hX
          go_wp2_with fail
          go_roundw
          case rel => exact ⟨k + 1, _, _, by go_num, by omega, hS4.out⟩
          case measure => simp [intOf] <;> omega
    · have hstop : (n0 : Int) ≤ (k : Int) ∨ ((k : Int) < (n0 : Int) ∧ (n1 : Int) ≤ (k : Int)) ∨ ((k : Int) < (n0 : Int) ∧ (k : Int) < (n1 : Int) ∧ (200 : Int) ≤ (k : Int)) := by omega
      go_upto_region 7 with fail
      go_cut [31] from 21 to 30 (fun v wx => v = .bool false ∧ wx = wr)
      case first =>
        rcases hstop with h0 | ⟨h0, h0'⟩ | ⟨h0, h0', h0''⟩
        all_goals
          go_wp2_with fail
          go_meet
          exact ⟨by first | rfl | (rw [decide_eq_false (by omega)]), rfl⟩
      case rest =>
      obtain ⟨rfl, rfl⟩ := hcut
      clear hstop hlt HT HI HN
      have hL := lines_any hf.p (HV.out _ hf.b)
      go_wp2_with fail
      refine hL.mono ?_
      rintro e w7 ⟨A, rfl, hA, hT7, b7⟩
      have hb7 := hf.b.trans (b7.mono hf.b.size)
      have hn7 := hf.n.below b7
      have hinv := hidc hf.i
      have hok := hidc hf.p.1
      obtain ⟨q0, q4, q1, q12, q6, q2, q15, q3, q17, -⟩ := hf.i
      have hk0 := hf.i.all
      have cN0 : ∀ d os, Calls Tryd.prog 14 #[.slice (some ⟨A, 0, none⟩) 18 18, .int .i64 0] (Sort.grow (redrawn w7 d) os) fun e w'' => e = .returned (.int .u64 (f 0 : Int)) ∧ ∃ p : Regrown, w'' = Sort.grow (redrawn w7 p.d) p.os := fun d os => Calls.regrown_of (number_any (hT7.below (below_regrown w7 d os)) hf.p.1 (i := 0) (by decide))
      have cN1 : ∀ d os, Calls Tryd.prog 14 #[.slice (some ⟨A, 0, none⟩) 18 18, .int .i64 1] (Sort.grow (redrawn w7 d) os) fun e w'' => e = .returned (.int .u64 (f 1 : Int)) ∧ ∃ p : Regrown, w'' = Sort.grow (redrawn w7 p.d) p.os := fun d os => Calls.regrown_of (number_any (hT7.below (below_regrown w7 d os)) hf.p.1 (i := 1) (by decide))
      have cN2 : ∀ d os, Calls Tryd.prog 14 #[.slice (some ⟨A, 0, none⟩) 18 18, .int .i64 2] (Sort.grow (redrawn w7 d) os) fun e w'' => e = .returned (.int .u64 (f 2 : Int)) ∧ ∃ p : Regrown, w'' = Sort.grow (redrawn w7 p.d) p.os := fun d os => Calls.regrown_of (number_any (hT7.below (below_regrown w7 d os)) hf.p.1 (i := 2) (by decide))
      have cN3 : ∀ d os, Calls Tryd.prog 14 #[.slice (some ⟨A, 0, none⟩) 18 18, .int .i64 3] (Sort.grow (redrawn w7 d) os) fun e w'' => e = .returned (.int .u64 (f 3 : Int)) ∧ ∃ p : Regrown, w'' = Sort.grow (redrawn w7 p.d) p.os := fun d os => Calls.regrown_of (number_any (hT7.below (below_regrown w7 d os)) hf.p.1 (i := 3) (by decide))
      have cN4 : ∀ d os, Calls Tryd.prog 14 #[.slice (some ⟨A, 0, none⟩) 18 18, .int .i64 4] (Sort.grow (redrawn w7 d) os) fun e w'' => e = .returned (.int .u64 (f 4 : Int)) ∧ ∃ p : Regrown, w'' = Sort.grow (redrawn w7 p.d) p.os := fun d os => Calls.regrown_of (number_any (hT7.below (below_regrown w7 d os)) hf.p.1 (i := 4) (by decide))
      have cN5 : ∀ d os, Calls Tryd.prog 14 #[.slice (some ⟨A, 0, none⟩) 18 18, .int .i64 5] (Sort.grow (redrawn w7 d) os) fun e w'' => e = .returned (.int .u64 (f 5 : Int)) ∧ ∃ p : Regrown, w'' = Sort.grow (redrawn w7 p.d) p.os := fun d os => Calls.regrown_of (number_any (hT7.below (below_regrown w7 d os)) hf.p.1 (i := 5) (by decide))
      have cN6 : ∀ d os, Calls Tryd.prog 14 #[.slice (some ⟨A, 0, none⟩) 18 18, .int .i64 6] (Sort.grow (redrawn w7 d) os) fun e w'' => e = .returned (.int .u64 (f 6 : Int)) ∧ ∃ p : Regrown, w'' = Sort.grow (redrawn w7 p.d) p.os := fun d os => Calls.regrown_of (number_any (hT7.below (below_regrown w7 d os)) hf.p.1 (i := 6) (by decide))
      have cN7 : ∀ d os, Calls Tryd.prog 14 #[.slice (some ⟨A, 0, none⟩) 18 18, .int .i64 7] (Sort.grow (redrawn w7 d) os) fun e w'' => e = .returned (.int .u64 (f 7 : Int)) ∧ ∃ p : Regrown, w'' = Sort.grow (redrawn w7 p.d) p.os := fun d os => Calls.regrown_of (number_any (hT7.below (below_regrown w7 d os)) hf.p.1 (i := 7) (by decide))
      have cN12 : ∀ d os, Calls Tryd.prog 14 #[.slice (some ⟨A, 0, none⟩) 18 18, .int .i64 12] (Sort.grow (redrawn w7 d) os) fun e w'' => e = .returned (.int .u64 (f 12 : Int)) ∧ ∃ p : Regrown, w'' = Sort.grow (redrawn w7 p.d) p.os := fun d os => Calls.regrown_of (number_any (hT7.below (below_regrown w7 d os)) hf.p.1 (i := 12) (by decide))
      have cN13 : ∀ d os, Calls Tryd.prog 14 #[.slice (some ⟨A, 0, none⟩) 18 18, .int .i64 13] (Sort.grow (redrawn w7 d) os) fun e w'' => e = .returned (.int .u64 (f 13 : Int)) ∧ ∃ p : Regrown, w'' = Sort.grow (redrawn w7 p.d) p.os := fun d os => Calls.regrown_of (number_any (hT7.below (below_regrown w7 d os)) hf.p.1 (i := 13) (by decide))
      have cN14 : ∀ d os, Calls Tryd.prog 14 #[.slice (some ⟨A, 0, none⟩) 18 18, .int .i64 14] (Sort.grow (redrawn w7 d) os) fun e w'' => e = .returned (.int .u64 (f 14 : Int)) ∧ ∃ p : Regrown, w'' = Sort.grow (redrawn w7 p.d) p.os := fun d os => Calls.regrown_of (number_any (hT7.below (below_regrown w7 d os)) hf.p.1 (i := 14) (by decide))
      have cN15 : ∀ d os, Calls Tryd.prog 14 #[.slice (some ⟨A, 0, none⟩) 18 18, .int .i64 15] (Sort.grow (redrawn w7 d) os) fun e w'' => e = .returned (.int .u64 (f 15 : Int)) ∧ ∃ p : Regrown, w'' = Sort.grow (redrawn w7 p.d) p.os := fun d os => Calls.regrown_of (number_any (hT7.below (below_regrown w7 d os)) hf.p.1 (i := 15) (by decide))
      have cN16 : ∀ d os, Calls Tryd.prog 14 #[.slice (some ⟨A, 0, none⟩) 18 18, .int .i64 16] (Sort.grow (redrawn w7 d) os) fun e w'' => e = .returned (.int .u64 (f 16 : Int)) ∧ ∃ p : Regrown, w'' = Sort.grow (redrawn w7 p.d) p.os := fun d os => Calls.regrown_of (number_any (hT7.below (below_regrown w7 d os)) hf.p.1 (i := 16) (by decide))
      have cN17 : ∀ d os, Calls Tryd.prog 14 #[.slice (some ⟨A, 0, none⟩) 18 18, .int .i64 17] (Sort.grow (redrawn w7 d) os) fun e w'' => e = .returned (.int .u64 (f 17 : Int)) ∧ ∃ p : Regrown, w'' = Sort.grow (redrawn w7 p.d) p.os := fun d os => Calls.regrown_of (number_any (hT7.below (below_regrown w7 d os)) hf.p.1 (i := 17) (by decide))
      have cM1 := cell_regrown (hn7.cell (i := 1) rfl)
      have cM2 := cell_regrown (hn7.cell (i := 2) rfl)
      have cM4 := cell_regrown (hn7.cell (i := 4) rfl)
      have cM5 := cell_regrown (hn7.cell (i := 5) rfl)
      have cM6 := cell_regrown (hn7.cell (i := 6) rfl)
      unfold u at cM1 cM2 cM4 cM5 cM6
      clear hL b7 hA hf HV hT7 hn7 hinv hok
      generalize f 0 = y0 at *
      generalize f 1 = y1 at *
      generalize f 2 = y2 at *
      generalize f 3 = y3 at *
      generalize f 4 = y4 at *
      generalize f 5 = y5 at *
      generalize f 6 = y6 at *
      generalize f 7 = y7 at *
      generalize f 12 = y12 at *
      generalize f 13 = y13 at *
      generalize f 14 = y14 at *
      generalize f 15 = y15 at *
      generalize f 16 = y16 at *
      generalize f 17 = y17 at *
      have m1 := hk0 1
      have m2 := hk0 2
      have m4 := hk0 4
      have m5 := hk0 5
      have m6 := hk0 6
      clear hk0
      generalize m 1 = M1 at *
      generalize m 2 = M2 at *
      generalize m 4 = M4 at *
      generalize m 5 = M5 at *
      generalize m 6 = M6 at *
      subst q0 q1 q2 q3
      subst q17
      have hs1 : IntKind.u64.wrap ((y4 : Int) + (y5 : Int)) = (y0 : Int) := by rw [IntKind.wrap_u64]; omega
      obtain ⟨a, ha⟩ : ∃ a, y12 + y13 = a := ⟨_, rfl⟩
      obtain ⟨b, hb⟩ : ∃ b, a + y14 = b := ⟨_, rfl⟩
      have hs2 : IntKind.u64.wrap ((y12 : Int) + (y13 : Int)) = (a : Int) := by rw [IntKind.wrap_u64]; omega
      have hs3 : IntKind.u64.wrap ((a : Int) + (y14 : Int)) = (b : Int) := by rw [IntKind.wrap_u64]; omega
      have hl1 : (b : Int) ≤ (y1 : Int) := by omega
      have hl1' : b ≤ y1 := by omega
      obtain ⟨d5, hd5⟩ : ∃ d, y6 + y7 = d := ⟨_, rfl⟩
      have hs4 : IntKind.u64.wrap ((y6 : Int) + (y7 : Int)) = (d5 : Int) := by rw [IntKind.wrap_u64]; omega
      have hl2 : (d5 : Int) ≤ (M5 : Int) := by omega
      have hl2' : d5 ≤ M5 := by omega
      obtain ⟨t5, ht5⟩ : ∃ t, y15 + y16 = t := ⟨_, rfl⟩
      have hs5 : IntKind.u64.wrap ((y15 : Int) + (y16 : Int)) = (t5 : Int) := by rw [IntKind.wrap_u64]; omega
      have hl3 : (t5 : Int) ≤ (y2 : Int) := by omega
      have hl3' : t5 ≤ y2 := by omega
      clear q4 q12 q6 q15 ha hb hd5 ht5 m1 m2 m4 m5 m6
      go_wp2_with fail
      refine region_own 79 (by kernel_rfl) (by kernel_rfl) ?_
      simp only [List.append_eq, List.cons_append, List.nil_append, List.take_succ_cons, List.take_zero, List.drop_succ_cons, List.drop_zero]
      iterate 5 (quiet_step (fail))
      quiet_step (exact cN0 _ _)
      iterate 6 (quiet_step (fail))
      quiet_step (exact cN4 _ _)
      iterate 1 (quiet_step (fail))
      quiet_step (exact cN5 _ _)
      iterate 7 (quiet_step (fail))
      quiet_step (exact cN1 _ _)
      iterate 6 (quiet_step (fail))
      quiet_step (exact cN12 _ _)
      iterate 1 (quiet_step (fail))
      quiet_step (exact cN13 _ _)
      iterate 2 (quiet_step (fail))
      quiet_step (exact cN14 _ _)
      iterate 7 (quiet_step (fail))
      quiet_step (exact cN6 _ _)
      iterate 1 (quiet_step (fail))
      quiet_step (exact cN7 _ _)
      iterate 7 (quiet_step (fail))
      quiet_step (exact cN2 _ _)
      iterate 6 (quiet_step (fail))
      quiet_step (exact cN15 _ _)
      iterate 1 (quiet_step (fail))
      quiet_step (exact cN16 _ _)
      iterate 7 (quiet_step (fail))
      quiet_step (exact cN3 _ _)
      iterate 6 (quiet_step (fail))
      quiet_step (exact cN17 _ _)
      iterate 2 (quiet_step (fail))
      refine wpQuiet_nil ?_
      intro _ hw'
      obtain ⟨⟨dq, osq⟩, hw''⟩ := hw'
      subst hw''
      have HF := hb7.trans ((below_regrown w7 dq osq).mono hb7.size)
      generalize Sort.grow (redrawn w7 dq) osq = w8 at *
      go_wp2_with fail
      go_ret
      exact ⟨rfl, HF⟩
end Go.Proofs.YtfoggbgemdlhbaaDoor.Sc
