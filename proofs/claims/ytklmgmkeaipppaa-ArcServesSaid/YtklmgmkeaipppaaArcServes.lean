/-
  A cache of so many places never holds more, and has who was just asked for: the statement, walked. No conditions but those of the calls.
-/
import Derived.Test.YtklmgmkeaipppaaArcScan
import Derived.Laws.OwnMore
import Derived.Maps.AppendAt
namespace Go.Proofs.Ytklmgmkeaipppaa.Ac
open Go Go.RowKit Go.Lib

theorem wpList_wanted {P : Program} {w : World} {ops : Array Oper} {rest : List Oper} {o : Oper} {a : Act} {Q : Exit → Act → World → Prop} (hg : Region.wanted o (yielded ops a.tmps) = true)
    (h : ∀ K : Act → World → Prop, (∀ a w, wpList P ops Q rest a w → K a w) → o.wp P a w K Q) : wpList P ops Q (o :: rest) a w :=
  wpList_step fun K hK => by rw [if_pos hg]; exact h K hK
/-- append of a row of ints that is known whole, whether it is nil or not; the operation may stand behind a guard that holds. -/
theorem wpList_append_row {w : World} {ops : Array Oper} {rest : List Oper} {o : Oper} {a : Act} {Q : Exit → Act → World → Prop} (hg : Region.wanted o (yielded ops a.tmps) = true) (s x : Operand)
    (ho : o.op = .call { callee := .builtin .append, args := #[s, x], argTypes := #[38, 38] })
    (base b2 : Nat) (v v2 : Value) (n m : Nat) (xs ys : List Int) (hs : a.eval s = v) (hown : Hid (w.ownsRow base 3 1 v n (ic xs))) (hx : a.eval x = v2) (h2 : Hid (w.ownsRow b2 3 1 v2 m (ic ys)))
    (hb : n + m ≤ 4194304) (hbase : base ≤ w.heap.size)
    (h : ∀ v' w', Hid (w'.ownsRow base 3 1 v' (n + m) (ic (xs ++ ys))) → Hid (w.grownBy w' v.ownBlock) → wpList Try.prog ops Q rest (a.put o.dst v') w') : wpList Try.prog ops Q (o :: rest) a w := by
  obtain ⟨i0, hi0, hz0, hz1, hz2⟩ := info_parts infoInt
  refine wpList_wanted hg fun K hK => ?_
  rcases h2.out.2 with ⟨rfl, rfl⟩ | ⟨g, cap, cur, rfl, hbg, hg2, hc, hcap, hcs, hcl⟩
  · have hy : ys = [] := by have := h2.out.1; rw [ic_len] at this; exact List.eq_nil_of_length_eq_zero (by omega)
    subst hy
    have hr := run_append_owned_none (P := Try.prog) (w := w) base 38 o.type 3 i0 1 Try.underlying38 hi0 v n (ic xs) hown.out
    unfold Oper.wp execOp
    simp only [ho, resolve, invoke, builtin, Sem.run_bind, Sem.run_pure, Result.andThen_ok, List.map_toArray, List.map_cons, List.map_nil, hs, hx, hr]
    exact hK _ _ (h v w (hid (by rw [List.append_nil]; exact hown.out)) (hid ⟨rfl, rfl, rfl, Nat.le_refl _, fun _ _ _ => rfl⟩))
  · obtain ⟨v', w', hr, k1, k2, _, _⟩ := run_append_own_at (P := Try.prog) w base 38 o.type 3 i0 (.int .i64 0) 1 8 Try.underlying38 hi0 hz0 hz1 hz2 rfl (by decide) v n (ic xs) hown.out ⟨g, 0, none⟩ m cap (ic ys) (by have := h2.out.1; omega) (fun j u hj => by
      have h4 := World.ownsRow.cellAt h2.out j (by have h3 := (List.getElem?_eq_some_iff.1 hj).1; have := h2.out.1; omega)
      rw [hj] at h4
      rw [addr_plain, Nat.zero_add]; exact h4) (ic_ok ys) (by unfold maxLen; omega) (by omega) hbase
    unfold Oper.wp execOp
    simp only [ho, resolve, invoke, builtin, Sem.run_bind, Sem.run_pure, Result.andThen_ok, List.map_toArray, List.map_cons, List.map_nil, hs, hx, hr]
    exact hK _ _ (h v' w' (hid (by rw [show ic (xs ++ ys) = ic xs ++ ic ys by simp [ic]]; exact k1)) (hid k2))

set_option maxRecDepth 100000 in
theorem has_any {a : Option Addr} {n c b : Nat} {xs : List Int} (hn : n ≤ 4194304) {w : World} (h : w.ownsRow b 3 1 (.slice a n c) n (ic xs)) (z : Int) :
    Calls Try.prog 24 #[.slice a n c, .int .i64 z] w fun e w' => e = .returned (.bool (decide (z ∈ xs))) ∧ w = w' := by
  have hl : xs.length = n := by have := h.1; rw [ic_len] at this; omega
  have HO := hid h
  have HK := hid hl
  clear h hl
  go_enter Try.func24, Try.ntmps24
  go_wp2_with fail
  go_loopw [5] (fun p wr => ∃ k : Nat, p = .int .i64 k ∧ k ≤ n ∧ w = wr ∧ Hid (∀ (j : Nat) y, j < k → xs[j]? = some y → y ≠ z)) (fun p _ => n - (RowKit.intOf p).toNat)
  case atStart => exact ⟨0, rfl, Nat.zero_le _, rfl, hid (fun j y hj => absurd hj (Nat.not_lt_zero j))⟩
  case round =>
    obtain ⟨k, rfl, hk, rfl, hno2⟩ := hrel
    by_cases hlt2 : k < n
    · obtain ⟨y, hy⟩ : ∃ y, xs[k]? = some y := ⟨_, List.getElem?_eq_getElem (by rw [HK.out]; exact hlt2)⟩
      obtain ⟨g, cap, hv, _, _, _⟩ := row_pos HO.out (by omega)
      cases hv
      have hcy := cel_of HO.out k y hy
      by_cases e : y = z
      · have hr : Hid (decide (z ∈ xs) = true) := hid (decide_eq_true (by rw [← e]; exact List.mem_of_getElem? hy))
        subst e
        clear hy
        go_wp2_with fail
        go_ret
        exact ⟨ret_bool hr.out.symm, rfl⟩
      · have hno3 : Hid (∀ (j : Nat) y, j < k + 1 → xs[j]? = some y → y ≠ z) := hid (fun j x hj hx => by
          by_cases e1 : j = k
          · subst e1; rw [hy] at hx; cases hx; exact e
          · exact hno2.out j x (by omega) hx)
        have hne : (y == z) = false := beq_eq_false_iff_ne.2 e
        clear hy e
        go_wp2_with fail
        go_roundw
        case rel => exact ⟨k + 1, by go_num, by omega, by first | rfl | trivial, hno3⟩
        case measure => simp [RowKit.intOf] <;> omega
    · obtain rfl : k = n := by omega
      have hr : Hid (decide (z ∈ xs) = false) := hid (decide_eq_false (fun hz => by
        obtain ⟨q, hq⟩ := List.mem_iff_getElem?.1 hz
        exact hno2.out q z (by rw [← HK.out]; exact (List.getElem?_eq_some_iff.1 hq).1) hq rfl))
      go_wp2_with fail
      go_ret
      exact ⟨ret_bool hr.out.symm, rfl⟩
theorem i64_and15 (n : Int) : bits .and .i64 n 15 = n % 16 := by
  have hm : (BitVec.ofInt 64 15).toNat = 2 ^ 4 - 1 := by decide
  have key : (BitVec.ofInt 64 n &&& BitVec.ofInt 64 15).toNat = (n % ((2 ^ 64 : Nat) : Int)).toNat % 2 ^ 4 := by
    rw [BitVec.toNat_and, BitVec.toNat_ofInt, hm, Nat.and_two_pow_sub_one_eq_mod]
  show IntKind.i64.wrap ((BitVec.ofInt 64 n &&& BitVec.ofInt 64 15).toNat : Nat) = n % 16
  rw [key, IntKind.wrap_i64]
  omega

set_option maxRecDepth 100000 in
set_option maxHeartbeats 4000000 in
theorem serves_law (n : Int) (q1 : -9223372036854775808 ≤ n) (q2 : n ≤ 9223372036854775807) (a1 : Option Addr) (n1 c1 : Nat) (xs1 : List Int) (w : World) (hx1 : Nums w a1 n1 xs1) :
    Calls Try.prog 4 #[.int .i64 n, .slice a1 n1 c1] w fun e w' => e = .returned (.bool true) ∧ Below w.heap.size w w' := by
  have hsh := shown_any w
  have HX1 := hid hx1
  obtain ⟨jq, hp⟩ := fold_neg n
  have hjq : jq ≤ 9223372036854775807 := by omega
  clear hx1
  go_enter Try.func4, Try.ntmps4
  go_wp2_with fail
  refine hsh.mono ?_
  rintro e w1 ⟨rfl, b1⟩
  have hnew := aa_new w1
  have B1 := hid b1
  clear hsh b1
  go_upto_if 18 with fail
  go_cut [0] from 17 to 21 (fun a wx => wx = w1 ∧ a = .int .i64 jq)
  case first =>
    rcases hp with ⟨t0, rfl⟩ | ⟨t0, rfl⟩
    all_goals
      go_wp2_with fail
      go_meet
      exact ⟨rfl, by go_num⟩
  case rest =>
  obtain ⟨rfl, rfl⟩ := hcut
  generalize wc = wB at *
  obtain ⟨m, hk, hk0, hk1, hk2⟩ : ∃ m : Nat, 1 + (jq : Int) % 9 = m ∧ 1 ≤ m ∧ m ≤ 9 ∧ 1 + (jq : Int).tmod 9 = (m : Int) := ⟨1 + jq % 9, by omega, by omega, by omega, by rw [Int.tmod_eq_emod_of_nonneg (by omega)]; omega⟩
  clear hp q1 q2
  go_wp2_with fail
  clear hk hk2 hjq
  refine hnew.mono ?_
  rintro e w2 ⟨P, rfl, h2⟩
  have hc := aa_cap h2 (m : Int) (small_i64 (by omega) (by omega))
  clear h2 hnew
  go_wp2_with fail
  refine hc.mono ?_
  rintro e w3 ⟨rfl, h4, -⟩
  have h4 := hid (And.intro (Sv.new m (by omega)) h4)
  clear hc
  go_wp2_with fail
  go_loopw [7] (fun p wr => ∃ (i : Nat) (s : Ar), p = .int .i64 (i : Int) ∧ i ≤ 150 ∧ i ≤ n1 ∧ Hid (Sv m s ∧ AA wB P s (fun _ => False) wr)) (fun p _ => 150 - (RowKit.intOf p).toNat)
  case atStart => exact ⟨0, _, rfl, Nat.zero_le _, Nat.zero_le _, h4⟩
  case round =>
    obtain ⟨i, s, rfl, hi, hin, hT⟩ := hrel
    clear h4
    by_cases hlt : i < n1 ∧ i < 150
    · obtain ⟨l1, l2⟩ := hlt
      obtain ⟨z1, hz1⟩ : ∃ z, xs1[i]? = some z := ⟨_, List.getElem?_eq_getElem (by rw [HX1.out.1]; exact l1)⟩
      obtain ⟨B1', o1, rfl, hbl1, hbc1⟩ := HX1.out.2 i z1 hz1
      have hb4 := Below.then B1.out hT.out.2.below
      have d1 := (hb4.cell (p := ⟨B1', o1 + i, none⟩) hbl1).trans hbc1
      obtain ⟨q, hq, hq16⟩ : ∃ q : Nat, bits .and .i64 z1 15 = (q : Int) ∧ q < 16 := ⟨(z1 % 16).toNat, by rw [i64_and15]; omega, by omega⟩
      have i1 : (i : Int) < (n1 : Int) := by omega
      have i2 : (i : Int) < 150 := by omega
      have q3 : IntKind.u64.wrap (q : Int) = (q : Int) := by rw [IntKind.wrap_u64]; omega
      have q4 : IntKind.u64.wrap ((q : Int) * 7) = (q : Int) * 7 := by rw [IntKind.wrap_u64]; omega
      have q5 : (q : Int) ≤ 15 := by omega
      have hto := aa_touch hT.out.2 (q : Int) (small_i64 (by omega) (by omega))
      clear hz1 hbc1 hb4
      go_upto_if 56 with fail
      refine hto.mono ?_
      rintro e w4 ⟨rfl, h5, -⟩
      have hS := hid hT.out.1
      have h5 := hid h5
      clear hto hT d1
      go_upto_if 56 with fail
      go_cut [10] from 53 to 86 (fun v wx => ∃ s' : Ar, Hid (Sv m s' ∧ (q : Int) ∈ s'.L.flatten ∧ AA wB P s' (fun _ => False) wx))
      case first =>
        cases eh : s.has (q : Int)
        · have hno : (q : Int) ∉ s.L.flatten := fun hm => by rw [show s.has (q : Int) = true from arow_some.2 hm] at eh; cases eh
          have h6 : AA wB P s (fun _ => False) w4 := by have := h5.out; rwa [show s.tch (q : Int) = s by unfold Ar.tch; rw [eh]; rfl] at this
          have HI : Hid (∀ t W, Sv m t → (q : Int) ∉ t.L.flatten → t.tot < m → AA wB P t (fun _ => False) W → Calls Try.prog 23 #[.pointer (some ⟨P, 0, none⟩), .int .i64 (q : Int), .int .u64 ((q : Int) * 7)] W fun e w' => e = .returned (.bool true) ∧ ∃ t', Hid (Sv m t' ∧ (q : Int) ∈ t'.L.flatten ∧ AA wB P t' (fun _ => False) w')) := hid (fun t W hv hn ht hA => by
            obtain ⟨g1, g2, g3⟩ := hv.ins (by omega) q5 hn ht
            have := aa_insert hA (q : Int) ((q : Int) * 7) (small_i64 (by omega) (by omega)) (small_u64 (by omega) (by omega)) (by have := hv.p; omega)
            rw [g2] at this
            exact this.mono fun e w' ⟨k1, k2, _⟩ => ⟨k1, _, hid ⟨g1, g3, k2⟩⟩)
          have hl0 := aa_all h6 0
          have htot : s.tot = (rowAt s.L 0).length + (rowAt s.L 1).length := rfl
          obtain ⟨K0, hK0⟩ : ∃ K, K = (rowAt s.L 0).length := ⟨_, rfl⟩
          obtain ⟨K1, hK1⟩ : ∃ K, K = (rowAt s.L 1).length := ⟨_, rfl⟩
          have htm := hS.out.tot
          rw [← hK0, ← hK1] at htot
          rw [← hK0] at hl0
          have HK1 := hid hK1
          have k01 : (K0 : Int) + (K1 : Int) ≤ 9 := by omega
          clear hK0 hK1 h5 h6
          go_wp2_with fail
          refine hl0.mono ?_
          rintro e w5 ⟨v, rfl, ho, h7, -⟩
          obtain ⟨a5, c5, rfl⟩ := row_form ho
          have hl1 := aa_all h7 1
          rw [← HK1.out] at hl1
          clear hl0 ho h7
          by_cases hfull : m ≤ K0 + K1
          · have hfl : (m : Int) ≤ (K0 : Int) + (K1 : Int) := by omega
            have hvin := vic_in hS.out.ok ((q : Int) * 7) (by omega)
            have hvr := hS.out.ok.good.rng _ hvin
            have hvq : s.vic ((q : Int) * 7) ≠ (q : Int) := fun e => hno (e ▸ hvin)
            have HE : Hid (∀ w6, AA wB P s (fun _ => False) w6 → Calls Try.prog 22 #[.pointer (some ⟨P, 0, none⟩), .int .i64 (s.vic ((q : Int) * 7))] w6 fun e w' => e = .returned (.bool true) ∧ Calls Try.prog 23 #[.pointer (some ⟨P, 0, none⟩), .int .i64 (q : Int), .int .u64 ((q : Int) * 7)] w' fun e w' => e = .returned (.bool true) ∧ ∃ t', Hid (Sv m t' ∧ (q : Int) ∈ t'.L.flatten ∧ AA wB P t' (fun _ => False) w')) := hid (fun w6 hA => by
              have := aa_evict hA (by have := hS.out.l1; omega) (by have := hS.out.l2; omega) (s.vic ((q : Int) * 7)) (by unfold i64ok; omega)
              rw [show s.has (s.vic ((q : Int) * 7)) = true from arow_some.2 hvin] at this
              exact this.mono fun e w' ⟨k1, k2, _⟩ => ⟨k1, HI.out _ _ (hS.out.evict hvin) (by rw [aevict_L]; exact fun hm => hno (mem_take.1 hm).1) (by have := aevict_tot hS.out.ok hvin; omega) k2⟩)
            have v0 : (0 : Int) ≤ s.vic ((q : Int) * 7) := hvr.1
            have vq : (s.vic ((q : Int) * 7) == (q : Int)) = false := beq_eq_false_iff_ne.2 hvq
            have HVc := hid (fun w6 (h : AA wB P s (fun _ => False) w6) => aa_victim h ((q : Int) * 7) (small_u64 (by omega) (by omega)))
            generalize s.vic ((q : Int) * 7) = V at *
            clear HI hvin hvr hvq htot htm HK1 hfull hno
            go_wp2_with fail
            refine hl1.mono ?_
            rintro e w6 ⟨v, rfl, ho, h8, -⟩
            obtain ⟨a6, c6, rfl⟩ := row_form ho
            have hv := HVc.out _ h8
            clear hl1 ho h8 HVc
            go_wp2_with fail
            refine hv.mono ?_
            rintro e w7 ⟨rfl, h9, -⟩
            have he := HE.out _ h9
            clear hv h9 HE
            go_wp2_with fail
            refine he.mono ?_
            rintro e w8 ⟨rfl, hin⟩
            clear he
            go_wp2_with fail
            refine hin.mono ?_
            rintro e w9 ⟨rfl, t', h10⟩
            clear hin
            go_wp2_with fail
            go_meet
            exact ⟨t', h10⟩
          · have hfl : (K0 : Int) + (K1 : Int) < (m : Int) := by omega
            have HI2 : Hid (∀ w6, AA wB P s (fun _ => False) w6 → Calls Try.prog 23 #[.pointer (some ⟨P, 0, none⟩), .int .i64 (q : Int), .int .u64 ((q : Int) * 7)] w6 fun e w' => e = .returned (.bool true) ∧ ∃ t', Hid (Sv m t' ∧ (q : Int) ∈ t'.L.flatten ∧ AA wB P t' (fun _ => False) w')) := hid (fun w6 h => HI.out _ _ hS.out hno (by omega) h)
            clear HI htot htm HK1 hfull hno
            go_wp2_with fail
            refine hl1.mono ?_
            rintro e w6 ⟨v, rfl, ho, h8, -⟩
            obtain ⟨a6, c6, rfl⟩ := row_form ho
            have hin := HI2.out _ h8
            clear hl1 ho h8 HI2
            go_wp2_with fail
            refine hin.mono ?_
            rintro e w9 ⟨rfl, t', h10⟩
            clear hin
            go_wp2_with fail
            go_meet
            exact ⟨t', h10⟩
        · have hyes : (q : Int) ∈ s.L.flatten := arow_some.1 eh
          have h6 : Hid (Sv m (s.tch (q : Int)) ∧ (q : Int) ∈ (s.tch (q : Int)).L.flatten ∧ AA wB P (s.tch (q : Int)) (fun _ => False) w4) := hid ⟨hS.out.tch _, (atch_mem hS.out.ok).2 hyes, h5.out⟩
          clear h5 hyes hS
          go_wp2_with fail
          go_meet
          exact ⟨_, h6⟩
      case rest =>
      obtain ⟨s', h6⟩ := hcut
      clear hS h5
      have hl0 := aa_all h6.out.2.2 0
      have HS := hid h6.out.1
      have HM := hid h6.out.2.1
      obtain ⟨r0, hr0⟩ : ∃ l, l = rowAt s'.L 0 := ⟨_, rfl⟩
      obtain ⟨r1, hr1⟩ : ∃ l, l = rowAt s'.L 1 := ⟨_, rfl⟩
      obtain ⟨K0, hK0⟩ : ∃ K, K = r0.length := ⟨_, rfl⟩
      obtain ⟨K1, hK1⟩ : ∃ K, K = r1.length := ⟨_, rfl⟩
      have hkk : (K0 : Int) + (K1 : Int) ≤ (m : Int) := by
        have : (rowAt s'.L 0).length + (rowAt s'.L 1).length ≤ m := h6.out.1.tot
        rw [hK0, hK1, hr0, hr1]; omega
      have hk9 : (K0 : Int) + (K1 : Int) ≤ 9 := by omega
      have hqm : Hid (decide ((q : Int) ∈ r0 ++ r1) = true) := hid (decide_eq_true (by
        obtain ⟨x, y, e⟩ := arows HS.out.ok.two
        have h := HM.out
        rw [e, aflat] at h
        rw [hr0, hr1, e]; exact h))
      have hpm : (s'.p : Int) ≤ (m : Int) := by have := h6.out.1.p; omega
      have hp0 : (0 : Int) ≤ (s'.p : Int) := by omega
      rw [← hr0, ← hK0] at hl0
      have HR0 := hid hr0
      have HR1 := hid hr1
      have HK0 := hid hK0
      have HK1 := hid hK1
      clear h6 hr0 hr1 hK0 hK1
      go_wp2_with fail
      refine hl0.mono ?_
      rintro e w5 ⟨v5, rfl, o5, h7, b5⟩
      obtain ⟨a5, c5, rfl⟩ := row_form o5
      have hl1 := aa_all h7 1
      rw [← HR1.out, ← HK1.out] at hl1
      have O5 := hid (Gh.own_zero o5)
      clear hl0 o5 h7 b5
      go_wp2_with fail
      refine hl1.mono ?_
      rintro e w6 ⟨v6, rfl, o6, h8, b6⟩
      obtain ⟨a6, c6, rfl⟩ := row_form o6
      have ht := aa_target h8
      have O6 := hid (Gh.own_zero o6)
      have O5b := hid (own_only O5.out (Below.only (D := fun _ => False) b6) (fun _ _ => id))
      clear hl1 o6 h8 b6 O5
      have HTg := hid (fun W (h : AA wB P s' (fun _ => False) W) => aa_target h)
      generalize (s'.p : Int) = pp at *
      go_wp2_with fail
      refine ht.mono ?_
      rintro e w7 ⟨rfl, h9, b7⟩
      have ht2 := HTg.out _ h9
      have O6b := hid (own_only O6.out (Below.only (D := fun _ => False) b7) (fun _ _ => id))
      have O5c := hid (own_only O5b.out (Below.only (D := fun _ => False) b7) (fun _ _ => id))
      clear ht HTg h9 b7 O6 O5b
      go_wp2_with fail
      refine ht2.mono ?_
      rintro e w8 ⟨rfl, h10, b8⟩
      have O6c := hid (own_only O6b.out (Below.only (D := fun _ => False) b8) (fun _ _ => id))
      have O5d := hid (own_only O5c.out (Below.only (D := fun _ => False) b8) (fun _ _ => id))
      have H10 := hid h10
      clear ht2 h10 b8 O6b O5c
      have HW0 : Hid ((w8.alloc (.cells #[] 3)).ownsRow w8.heap.size 3 1 (.slice (some ⟨w8.heap.size, 0, none⟩) 0 0) 0 (ic [])) := hid ⟨rfl, .inr ⟨w8.heap.size, 0, #[], rfl, Nat.le_refl _, Blk.new w8 #[] 3, Nat.le_refl _, by decide, rfl, rfl⟩⟩
      have O5e := hid (own_only O5d.out (Below.only (D := fun _ => False) (alloc_below w8 (.cells #[] 3))) (fun _ _ => id))
      have O6e := hid (own_only O6c.out (Below.only (D := fun _ => False) (alloc_below w8 (.cells #[] 3))) (fun _ _ => id))
      have HBa := hid (alloc_below w8 (.cells #[] 3))
      have hsz : w8.heap.size ≤ (w8.alloc (.cells #[] 3)).heap.size := HBa.out.size
      have hkn : K0 + K1 ≤ 9 := by omega
      obtain ⟨N, hN⟩ : ∃ N, N = 0 + K0 + K1 := ⟨_, rfl⟩
      have HN := hid hN
      clear hN
      go_wp2_with (first
        | (at_builtin; refine wpList_append_row (by simp [Region.wanted, yielded]; exact ⟨⟨hkk, hp0⟩, hpm⟩) _ _ rfl w8.heap.size 0 _ _ (0 + K0) K1 ([] ++ r0) r1 rfl hA1 rfl hA2 (by omega) hsz2 ?_; intro v10 w10 hA3 hg3; have hA4 := hA3.out; rw [← HN.out] at hA4; obtain ⟨a10, d10, rfl⟩ := row_form hA4; have HB10 := hid (HBb.out.grown hg3.out hsz2 (fun k hk => (own_base_le hA1.out hk).1)); have HO10 := hid hA4; have hhas := has_any (by rw [HN.out]; omega) hA4 (q : Int); rw [List.nil_append, hqm.out] at hhas; clear hA3 hA4 hA1 hA2 hg3 hsz2 HBb)
        | (at_builtin; refine wpList_append_row (by simp [Region.wanted, yielded]; exact ⟨⟨hkk, hp0⟩, hpm⟩) _ _ rfl w8.heap.size 0 _ _ 0 K0 [] r0 rfl HW0 rfl O5e (by omega) hsz ?_; intro v9 w9 hA1 hg1; have HBb := hid (HBa.out.grown hg1.out hsz (fun k hk => (own_base_le HW0.out hk).1)); have hsz2 := HBb.out.size; have hA2 := hid (own_only O6c.out (Below.only (D := fun _ => False) HBb.out) (fun _ _ => id)); clear hg1))
      refine hhas.mono ?_
      rintro e w11 ⟨rfl, rfl⟩
      have HG : Hid (AA wB P s' (fun _ => False) w10 ∧ w10.ownsRow 0 3 1 (.slice a5 K0 c5) K0 (ic r0) ∧ w10.ownsRow 0 3 1 (.slice a6 K1 c6) K1 (ic r1)) := hid ⟨HasO.after H10.out HB10.out, own_only O5d.out (Below.only (D := fun _ => False) HB10.out) (fun _ _ => id), own_only O6c.out (Below.only (D := fun _ => False) HB10.out) (fun _ _ => id)⟩
      clear hhas HB10 HO10 H10 O5d O6c O5e O6e HW0 HBa hsz hqm HM
      go_wp2_with fail
      clear hp0 hpm hkk
      go_loopw [13] (fun p wr => ∃ k : Nat, p = .int .i64 (k : Int) ∧ k ≤ 2 ∧ Hid (AA wB P s' (fun _ => False) wr ∧ wr.ownsRow 0 3 1 (.slice a5 K0 c5) K0 (ic r0) ∧ wr.ownsRow 0 3 1 (.slice a6 K1 c6) K1 (ic r1))) (fun p _ => 2 - (RowKit.intOf p).toNat)
      case atStart => exact ⟨0, rfl, Nat.zero_le _, HG⟩
      case round =>
        clear HG
        obtain ⟨k, rfl, hk, hR⟩ := hrel
        by_cases hk2 : k < 2
        · have hg := aa_ghosts hR.out.1 (k : Int)
          have hgm : Hid (∀ x ∈ s'.gh (k : Int), ∃ Z : Nat, Z ≤ 15 ∧ x = (Z : Int) * 7 ∧ (Z : Int) ∉ r0 ∧ (Z : Int) ∉ r1) := hid (fun x hx => by
            have hb : x ∈ s'.b1 ∨ x ∈ s'.b2 := by
              unfold Ar.gh at hx
              split at hx
              · exact .inl hx
              · split at hx
                · exact .inr hx
                · cases hx
            obtain ⟨z, z0, z1, z2, z3⟩ := HS.out.gh x hb
            obtain ⟨Z, rfl⟩ : ∃ Z : Nat, z = Z := ⟨z.toNat, by omega⟩
            obtain ⟨p, r, e⟩ := arows HS.out.ok.two
            rw [e, aflat, List.mem_append, not_or] at z3
            rw [HR0.out, HR1.out, e]
            exact ⟨Z, by omega, z2, z3.1, z3.2⟩)
          have hgl : (s'.gh (k : Int)).length ≤ m := by
            unfold Ar.gh
            split
            · exact HS.out.l1
            · split
              · exact HS.out.l2
              · exact Nat.zero_le _
          obtain ⟨gs, hgs⟩ : ∃ l, l = s'.gh (k : Int) := ⟨_, rfl⟩
          rw [← hgs] at hg hgm hgl
          obtain ⟨G, hG⟩ : ∃ K, K = gs.length := ⟨_, rfl⟩
          rw [← hG] at hg hgl
          have HGL := hid hG
          have hk2i : (k : Int) < 2 := by omega
          have hgli : decide (m < G) = false := decide_eq_false (by omega)
          have hgli2 : decide ((m : Int) < (G : Int)) = false := decide_eq_false (by omega)
          have hG9 : G ≤ 9 := by omega
          have HG9 := hid hG9
          clear hgl hG9
          clear hgs hG
          go_wp2_with fail
          refine hg.mono ?_
          rintro e w12 ⟨v, rfl, ho, h12, b12⟩
          obtain ⟨ag, cg, rfl⟩ := row_form ho
          have OG := hid (Gh.own_zero ho)
          have HJ : Hid (AA wB P s' (fun _ => False) w12 ∧ w12.ownsRow 0 3 1 (.slice a5 K0 c5) K0 (ic r0) ∧ w12.ownsRow 0 3 1 (.slice a6 K1 c6) K1 (ic r1)) := hid ⟨h12, own_only hR.out.2.1 (Below.only (D := fun _ => False) b12) (fun _ _ => id), own_only hR.out.2.2 (Below.only (D := fun _ => False) b12) (fun _ _ => id)⟩
          clear hg ho h12 b12 hR
          go_wp2_with fail
          go_loopw [15] (fun p wr => ∃ j : Nat, p = .int .i64 (j : Int) ∧ j ≤ G ∧ w12 = wr) (fun p _ => G - (RowKit.intOf p).toNat)
          case atStart => exact ⟨0, rfl, Nat.zero_le _, rfl⟩
          case round =>
            obtain ⟨j, rfl, hj, rfl⟩ := hrel
            by_cases hjG : j < G
            · obtain ⟨x, hx⟩ : ∃ x, gs[j]? = some x := ⟨_, List.getElem?_eq_getElem (by rw [← HGL.out]; exact hjG)⟩
              obtain ⟨Z, hZ15, rfl, hn0, hn1⟩ := hgm.out x (List.mem_of_getElem? hx)
              obtain ⟨g, cap, hv, hcap, hgb, hgl2⟩ := row_pos OG.out (by omega)
              cases hv
              have hcx := OG.out.cellAt j (by omega)
              rw [Gh.uc_at hx] at hcx
              have hh0 := has_any (by omega) HJ.out.2.1 (Z : Int)
              have hh1 := has_any (by omega) HJ.out.2.2 (Z : Int)
              rw [decide_eq_false hn0] at hh0
              rw [decide_eq_false hn1] at hh1
              have z1 : (Z : Int) * 7 / 7 = (Z : Int) := by omega
              have z2 : ((Z : Int) * 7).tdiv 7 = (Z : Int) := by rw [Int.tdiv_eq_ediv_of_nonneg (by omega)]; omega
              have z3 : IntKind.i64.wrap (Z : Int) = (Z : Int) := by rw [IntKind.wrap_i64]; omega
              have z4 : IntKind.u64.wrap (Z : Int) = (Z : Int) := by rw [IntKind.wrap_u64]; omega
              have j1 : (j : Int) < (G : Int) := by omega
              have j2 : (j : Int) + 1 ≤ 10 := by have := HG9.out; omega
              clear hx hcap hgb hgl2 hn0 hn1
              go_wp2_with fail
              refine hh0.mono ?_
              rintro e w13 ⟨rfl, rfl⟩
              clear hh0
              go_wp2_with fail
              refine hh1.mono ?_
              rintro e w13 ⟨rfl, rfl⟩
              clear hh1
              go_wp2_with fail
              go_roundw
              case rel => first | exact ⟨j + 1, by go_num, by omega, by first | rfl | trivial⟩ | ((repeat apply Exists.intro); exact ⟨⟨j + 1, by go_num, by omega, by first | rfl | trivial⟩, rfl⟩)
              case measure => simp [RowKit.intOf] <;> omega
            · obtain rfl : j = G := by omega
              clear hjG hj
              go_wp2_with fail
              go_roundw
              case rel => first | exact ⟨k + 1, by go_num, by omega, HJ⟩ | ((repeat apply Exists.intro); exact ⟨⟨k + 1, by go_num, by omega, HJ⟩, rfl⟩)
              case measure => simp [RowKit.intOf] <;> omega
        · obtain rfl : k = 2 := by omega
          have HF := hid (And.intro HS.out hR.out.1)
          clear hR hk hk2
          go_wp2_with fail
          go_roundw
          case rel => first | exact ⟨i + 1, _, by go_num, by omega, by omega, HF⟩ | ((repeat apply Exists.intro); exact ⟨⟨i + 1, _, by go_num, by omega, by omega, HF⟩, rfl⟩)
          case measure => simp [RowKit.intOf] <;> omega
    · have hstop : (n1 : Int) ≤ (i : Int) ∨ ((i : Int) < (n1 : Int) ∧ (150 : Int) ≤ (i : Int)) := by omega
      have HB := hid (Below.then B1.out hT.out.2.below)
      clear hlt hT
      rcases hstop with h0 | ⟨h0, h0'⟩
      all_goals
        go_wp2_with fail
        go_ret
        exact ⟨rfl, HB.out⟩
end Go.Proofs.Ytklmgmkeaipppaa.Ac
