/-
  An id stands in one row at most: the statement, walked. No conditions.
-/
import Derived.Test.YtifbjbebnjjflaaRowsOneMath
namespace Go.Proofs.Ytifbjbebnjjflaa
open Go Go.RowKit Go.Lib

set_option maxRecDepth 100000 in
set_option maxHeartbeats 4000000 in
theorem one_law (q : Int) (q1 : -9223372036854775808 ≤ q) (q2 : q ≤ 9223372036854775807) (a : Option Addr) (n c0 : Nat) (w : World) (hx : Ops w a n) :
    Calls Try.prog 5 #[.int .i64 q, .slice a n c0] w fun e w' => e = .returned (.bool true) ∧ Below w.heap.size w w' := by
  have hX := hid hx
  obtain ⟨jq, hp⟩ := fold_neg q
  have hjq : jq ≤ 9223372036854775807 := by omega
  obtain ⟨Z, hZ, hzv⟩ := held_made
  clear hx
  go_enter Try.func5, Try.ntmps5
  go_wp2_with fail
  refine (shown_any w).mono ?_
  rintro e w1 ⟨rfl, b1⟩
  go_upto_if 20 with fail
  go_cut [0] from 19 to 23 (fun a wx => wx = w1 ∧ a = .int .i64 jq)
  case first =>
    rcases hp with ⟨t0, rfl⟩ | ⟨t0, rfl⟩
    all_goals
      go_wp2_with fail
      go_meet
      exact ⟨rfl, by go_num⟩
  case rest =>
  obtain ⟨rfl, rfl⟩ := hcut
  obtain ⟨nn, hk, hn1, hn8⟩ : ∃ nn : Nat, 1 + (jq : Int) % 8 = nn ∧ 1 ≤ nn ∧ nn ≤ 8 := ⟨1 + jq % 8, by omega, by omega, by omega⟩
  clear hp q1 q2
  go_wp2_with fail
  clear hk hjq
  refine (has_new nn hn1 hn8 _).mono ?_
  rintro e w2 ⟨P, rfl, hT⟩
  have HT := hid hT
  clear hT
  go_wp2_with fail
  go_loopw [7] (fun p wr => ∃ (i : Nat) (L : List (List Int)), p = .int .i64 i ∧ i ≤ 100 ∧ i ≤ n ∧ Hid (L.length = nn) ∧ Hid (Small L) ∧ Hid (HasR wc P L (fun _ => False) wr)) (fun p _ => 100 - (RowKit.intOf p).toNat)
  case atStart => exact ⟨0, _, rfl, Nat.zero_le _, Nat.zero_le _, hid (by rw [List.length_replicate]), hid (fun z hz => by obtain ⟨l, hl, hz⟩ := List.mem_flatten.1 hz; rw [(List.mem_replicate.1 hl).2] at hz; cases hz), HT⟩
  case round =>
    obtain ⟨i, L, rfl, hi, hin, hL, hS, hTr⟩ := hrel
    clear HT
    by_cases hlt : i < n ∧ i < 100
    · obtain ⟨l1, l2⟩ := hlt
      obtain ⟨B, o, kd, rr, zz, rfl, hO⟩ := hX.out i l1
      have hb2 := Below.then b1 hTr.out.below
      have c0 := (hb2.cell (p := ⟨B, o + i * 3, none⟩) hO.lt).trans hO.e0
      have c1 := (hb2.cell (p := ⟨B, o + i * 3 + 1, none⟩) hO.lt).trans hO.e1
      have c2 := (hb2.cell (p := ⟨B, o + i * 3 + 2, none⟩) hO.lt).trans hO.e2
      obtain ⟨q, hq, hq8⟩ : ∃ q : Nat, bits .and .i64 rr 7 = (q : Int) ∧ q < 8 := ⟨(rr % 8).toNat, by rw [i64_and7]; omega, by omega⟩
      obtain ⟨m, hm, hm2⟩ : ∃ m : Nat, bits .and .i64 zz 31 = (m : Int) ∧ m < 32 := ⟨(zz % 32).toNat, by rw [i64_and31]; omega, by omega⟩
      have hmz : i64ok (m : Int) := by unfold i64ok; omega
      have hA := hTr.out.after ((Below.refl _ _).alloc (Nat.le_refl _) (.cells #[.int .i64 kd, .int .i64 rr, .int .i64 zz] 29))
      clear hO hb2 hTr
      by_cases k1 : kd = 1
      · subst k1
        have hf := has_front hA (q : Int) (m : Int) hmz
        have hS2 : Hid (Small (opFront L (q : Int) (m : Int))) := hid (hS.out.front _ (by omega))
        have hL2 : Hid ((opFront L (q : Int) (m : Int)).length = nn) := hid (by rw [opFront_len]; exact hL.out)
        by_cases hq : (q : Int) < (nn : Int)
        · have hmay : May L.length (q : Int) (m : Int) := ⟨by omega, by rw [hL.out]; exact hq, by omega, by omega⟩
          rw [decide_eq_true hmay] at hf
          have hfi := fun w6 (h : HasR wc P (opFront L (q : Int) (m : Int)) (fun _ => False) w6) => has_first h (q : Int)
          rw [first_front hmay] at hfi
          have HFI := hid hfi
          clear hfi hmay hA
          go_wp2_with fail
          refine hf.mono ?_
          rintro e w5 ⟨rfl, h5, -⟩
          have hfi5 := HFI.out w5 h5
          have H5 := hid h5
          clear hf h5 HFI
          go_wp2_with fail
          refine hfi5.mono ?_
          rintro e w6 ⟨rfl, rfl⟩
          clear hfi5
          go_wp2_with fail
          go_roundw
          case rel => exact ⟨i + 1, _, by go_num, by omega, by omega, hL2, hS2, H5⟩
          case measure => simp [RowKit.intOf] <;> omega
        · have hmay : ¬ May L.length (q : Int) (m : Int) := fun e => hq (by have := e.2.1; rw [hL.out] at this; exact this)
          rw [decide_eq_false hmay] at hf
          clear hmay hA
          go_wp2_with fail
          refine hf.mono ?_
          rintro e w5 ⟨rfl, h5, -⟩
          have H5 := hid h5
          clear hf h5
          go_wp2_with fail
          go_roundw
          case rel => exact ⟨i + 1, _, by go_num, by omega, by omega, hL2, hS2, H5⟩
          case measure => simp [RowKit.intOf] <;> omega
      · have n1 : (kd == 1) = false := by simpa using k1
        by_cases k2 : kd = 2
        · subst k2
          have hf := has_back hA (q : Int) (m : Int) hmz
          have hS2 : Hid (Small (opBack L (q : Int) (m : Int))) := hid (hS.out.back _ (by omega))
          have hL2 : Hid ((opBack L (q : Int) (m : Int)).length = nn) := hid (by rw [opBack_len]; exact hL.out)
          by_cases hq : (q : Int) < (nn : Int)
          · have hmay : May L.length (q : Int) (m : Int) := ⟨by omega, by rw [hL.out]; exact hq, by omega, by omega⟩
            rw [decide_eq_true hmay] at hf
            have hfi := fun w6 (h : HasR wc P (opBack L (q : Int) (m : Int)) (fun _ => False) w6) => has_last h (q : Int)
            rw [last_back hmay] at hfi
            have HFI := hid hfi
            clear hfi hmay hA
            go_wp2_with fail
            refine hf.mono ?_
            rintro e w5 ⟨rfl, h5, -⟩
            have hfi5 := HFI.out w5 h5
            have H5 := hid h5
            clear hf h5 HFI
            go_wp2_with fail
            refine hfi5.mono ?_
            rintro e w6 ⟨rfl, rfl⟩
            clear hfi5
            go_wp2_with fail
            go_roundw
            case rel => exact ⟨i + 1, _, by go_num, by omega, by omega, hL2, hS2, H5⟩
            case measure => simp [RowKit.intOf] <;> omega
          · have hmay : ¬ May L.length (q : Int) (m : Int) := fun e => hq (by have := e.2.1; rw [hL.out] at this; exact this)
            rw [decide_eq_false hmay] at hf
            clear hmay hA
            go_wp2_with fail
            refine hf.mono ?_
            rintro e w5 ⟨rfl, h5, -⟩
            have H5 := hid h5
            clear hf h5
            go_wp2_with fail
            go_roundw
            case rel => exact ⟨i + 1, _, by go_num, by omega, by omega, hL2, hS2, H5⟩
            case measure => simp [RowKit.intOf] <;> omega
        · have n2 : (kd == 2) = false := by simpa using k2
          have hro := has_row hA (m : Int) hmz
          have htk := has_take hA (m : Int) hmz
          have hS2 : Hid (Small (takeL L (m : Int))) := hid (hS.out.take _)
          have hL2 : Hid ((takeL L (m : Int)).length = nn) := hid (by rw [takeL_len]; exact hL.out)
          have hro2 := fun w6 (h : HasR wc P (takeL L (m : Int)) (fun _ => False) w6) => has_row h (m : Int) hmz
          rw [row_take] at hro2
          have HRO := hid hro2
          cases hrow : rowOf L (m : Int) with
          | none =>
            rw [hrow] at hro htk
            replace hro : Calls _ _ _ _ fun e w' => e = .returned (.int .i64 (-1)) ∧ _ = w' := hro
            clear hrow hro2 hA k1 k2
            go_wp2_with fail
            refine hro.mono ?_
            rintro e w5 ⟨rfl, rfl⟩
            clear hro
            go_wp2_with fail
            refine htk.mono ?_
            rintro e w6 ⟨rfl, h6, -⟩
            have hr6 := HRO.out w6 h6
            replace hr6 : Calls _ _ _ _ fun e w' => e = .returned (.int .i64 (-1)) ∧ _ = w' := hr6
            have H6 := hid h6
            clear htk h6 HRO
            go_wp2_with fail
            refine hr6.mono ?_
            rintro e w7 ⟨rfl, rfl⟩
            clear hr6
            go_wp2_with fail
            go_roundw
            case rel => exact ⟨i + 1, _, by go_num, by omega, by omega, hL2, hS2, H6⟩
            case measure => simp [RowKit.intOf] <;> omega
          | some jr =>
            rw [hrow] at hro htk
            replace hro : Calls _ _ _ _ fun e w' => e = .returned (.int .i64 (jr : Int)) ∧ _ = w' := hro
            clear hrow hro2 hA k1 k2
            go_wp2_with fail
            refine hro.mono ?_
            rintro e w5 ⟨rfl, rfl⟩
            clear hro
            go_wp2_with fail
            refine htk.mono ?_
            rintro e w6 ⟨rfl, h6, -⟩
            have hr6 := HRO.out w6 h6
            replace hr6 : Calls _ _ _ _ fun e w' => e = .returned (.int .i64 (-1)) ∧ _ = w' := hr6
            have H6 := hid h6
            clear htk h6 HRO
            go_wp2_with fail
            refine hr6.mono ?_
            rintro e w7 ⟨rfl, rfl⟩
            clear hr6
            go_wp2_with fail
            go_roundw
            case rel => exact ⟨i + 1, _, by go_num, by omega, by omega, hL2, hS2, H6⟩
            case measure => simp [RowKit.intOf] <;> omega
    · have hstop : (n : Int) ≤ (i : Int) ∨ ((i : Int) < (n : Int) ∧ (100 : Int) ≤ (i : Int)) := by omega
      have hB0 := Blk.new wr Z 38
      rw [hZ] at hB0
      have hT2 : HasR wc P L (fun x => x = wr.heap.size) (wr.alloc (.cells Z 38)) := hTr.out.more ((Below.refl _ _).alloc (Nat.le_refl _) _) (fun x hx => .inr (by rw [hx]; simp))
      have hTb : wc.heap.size ≤ wr.heap.size := hTr.out.below.size
      clear hlt hTr
      rcases hstop with h0 | ⟨h0, h0'⟩
      all_goals
        go_wp2_with fail
        generalize wr.alloc (.cells Z 38) = w3 at *
        generalize wr.heap.size = T at *
        have HB0 := hid hB0
        have HT2 := hid hT2
        have HL := hL
        clear hB0 hT2 hZ hzv hL
        go_loopw [13, 14] (fun p1 p2 wr => ∃ k : Nat, p2 = .int .i64 k ∧ p1 = .int .i64 (((L.take k).flatten.length : Nat) : Int) ∧ k ≤ nn ∧ Hid (Blk wr T 38 (hc (cnts (L.take k).flatten))) ∧ Hid (HasR wc P L (fun x => x = T) wr)) (fun _ p _ => nn - (RowKit.intOf p).toNat)
        case atStart => exact ⟨0, rfl, rfl, Nat.zero_le _, HB0, HT2⟩
        case round =>
          obtain ⟨k, rfl, rfl, hk, hBr, hTr⟩ := hrel
          clear HB0 HT2
          have hg := hid hTr.out.good
          by_cases hlt : k < nn
          · obtain ⟨rw0, hrw⟩ : ∃ l, L[k]? = some l := ⟨_, List.getElem?_eq_getElem (by rw [HL.out]; exact hlt)⟩
            have hall := has_all hTr.out (k : Int)
            rw [rowAt_nat hrw] at hall
            have hlen := fun w5 (h : HasR wc P L (fun x => x = T) w5) => has_len h (k : Int)
            rw [rowAt_nat hrw] at hlen
            have HLEN := hid hlen
            have hKb : rw0.length ≤ 4194304 := hg.out.len hrw
            have hAb : (L.take k).flatten.length ≤ 4194304 := Nat.le_trans (take_flat_le L k) hg.out.count
            have hAs : Hid ((L.take (k + 1)).flatten = (L.take k).flatten ++ rw0) := hid (by rw [take_snoc hrw]; simp)
            have hTl := hTr.out.lt T rfl
            obtain ⟨K, hK⟩ : ∃ K, K = rw0.length := ⟨_, rfl⟩
            rw [← hK] at hall hKb
            rw [← hK] at HLEN
            have HK := hid hK
            have HRW := hid hrw
            obtain ⟨A, hA⟩ : ∃ A, A = (L.take k).flatten.length := ⟨_, rfl⟩
            rw [← hA] at hAb ⊢
            have HA := hid hA
            clear hrw hlen hK hA
            go_wp2_with fail
            refine hall.mono ?_
            rintro e w5 ⟨v5, rfl, o5, b5⟩
            have h5 := hTr.out.after b5
            have HB5 := hid (hBr.out.below b5)
            have hlen5 := HLEN.out w5 h5
            obtain ⟨a5, c5, rfl⟩ := row_form o5
            have HO5 : Hid (∃ base, T < base ∧ w5.ownsRow base 3 1 (.slice a5 K c5) K (ic rw0)) := hid ⟨_, hTl, o5⟩
            have H5 := hid h5
            clear hall o5 b5 h5 hTl hBr hTr HLEN
            go_wp2_with fail
            refine hlen5.mono ?_
            rintro e w6 ⟨rfl, rfl⟩
            clear hlen5
            go_wp2_with fail
            go_loopw [16] (fun p wr => ∃ t : Nat, p = .int .i64 t ∧ t ≤ K ∧ Hid (∃ base, T < base ∧ wr.ownsRow base 3 1 (.slice a5 K c5) K (ic rw0)) ∧ Hid (Blk wr T 38 (hc (cnts ((L.take k).flatten ++ rw0.take t)))) ∧ Hid (HasR wc P L (fun x => x = T) wr)) (fun p _ => K - (RowKit.intOf p).toNat)
            case atStart => exact ⟨0, rfl, Nat.zero_le _, HO5, hid (by rw [List.take_zero, List.append_nil]; exact HB5.out), H5⟩
            case round =>
              obtain ⟨t, rfl, ht, hOr, hBr, hTr⟩ := hrel
              clear HO5 HB5 H5
              by_cases hlt2 : t < K
              · obtain ⟨z, hz⟩ : ∃ z, rw0[t]? = some z := ⟨_, List.getElem?_eq_getElem (by rw [← HK.out]; exact hlt2)⟩
                obtain ⟨base, hbase, ho⟩ := hOr.out
                obtain ⟨g, cap, hv, hcap, hgb, hgl⟩ := row_pos ho (by omega)
                cases hv
                have hcz := cel_of ho t z hz
                have hzm := mem_flat HRW.out (List.mem_of_getElem? hz)
                have hzr := hg.out.rng z hzm
                have hzs := hS.out z hzm
                obtain ⟨m, rfl⟩ : ∃ m : Nat, z = m := ⟨z.toNat, by omega⟩
                have hm32 : m < 32 := by omega
                have hro := has_row hTr.out (m : Int) (by unfold i64ok; omega)
                rw [rowOf_at hg.out.nd HRW.out (List.mem_of_getElem? hz)] at hro
                replace hro : Calls _ _ _ _ fun e w' => e = .returned (.int .i64 (k : Int)) ∧ _ = w' := hro
                obtain ⟨C, hC⟩ : ∃ C, C = ((L.take k).flatten ++ rw0.take t).count (m : Int) := ⟨_, rfl⟩
                have hCb : C ≤ 8388608 := by
                  rw [hC]
                  refine Nat.le_trans List.count_le_length ?_
                  rw [List.length_append, List.length_take, ← HA.out]; omega
                have hct := hBr.out.cell (hc_at (cnts_at (xs := (L.take k).flatten ++ rw0.take t) hm32))
                rw [← hC] at hct
                have hfz := hBr.out.frozen m
                have hne : ¬ T = g := by omega
                have HB6 : Hid (Blk (wr.setCell ⟨T, m, none⟩ (.int .i64 ((C : Int) + 1))) T 38 (hc (cnts ((L.take k).flatten ++ rw0.take (t + 1))))) := hid (by
                  have := hBr.out.set m (.int .i64 ((C + 1 : Nat) : Int))
                  rw [take_snoc hz, ← List.append_assoc, cnts_snoc hm32, hc_set, ← hC]; exact this)
                have ho6 : Only (fun x => x = T) wr (wr.setCell ⟨T, m, none⟩ (.int .i64 ((C : Int) + 1))) := Only.setCell (D := fun x => x = T) (Only.refl _ wr) (p := ⟨T, m, none⟩) (.inl rfl) _
                have H6 : Hid (HasR wc P L (fun x => x = T) (wr.setCell ⟨T, m, none⟩ (.int .i64 ((C : Int) + 1)))) := hid (hTr.out.turn ho6 (fun x hx => by rw [hx]; exact hTb) (fun x hx => ⟨.inl hx, Nat.lt_of_lt_of_le (hTr.out.lt x hx) ho6.size⟩))
                have HO6 : Hid (∃ base, T < base ∧ (wr.setCell ⟨T, m, none⟩ (.int .i64 ((C : Int) + 1))).ownsRow base 3 1 (.slice (some ⟨g, 0, none⟩) K c5) K (ic rw0)) := hid ⟨base, hbase, own_only ho ho6 (fun b hb => by
                  obtain rfl : g = b := by simpa [Value.ownBlock] using hb
                  exact fun e => hne e.symm)⟩
                clear hOr hBr hTr hz hzm hC ho ho6 hzr hzs hbase hgb hgl
                go_wp2_with fail
                refine hro.mono ?_
                rintro e w7 ⟨rfl, rfl⟩
                clear hro
                go_wp2_with fail
                go_roundw
                case rel => exact ⟨t + 1, by go_num, by omega, HO6, HB6, H6⟩
                case measure => simp [RowKit.intOf] <;> omega
              · obtain rfl : t = K := by omega
                have HB7 : Hid (Blk wr T 38 (hc (cnts (L.take (k + 1)).flatten))) := hid (by
                  have := hBr.out
                  rw [HK.out, List.take_length, ← hAs.out] at this; exact this)
                clear hBr hOr
                go_wp2_with fail
                go_roundw
                case rel => exact ⟨k + 1, by go_num, by rw [hAs.out, List.length_append, ← HA.out, ← HK.out]; rfl, by omega, HB7, hTr⟩
                case measure => simp [RowKit.intOf] <;> omega
          · obtain rfl : k = nn := by omega
            have HB7 : Hid (Blk wr T 38 (hc (cnts L.flatten))) := hid (by
              have := hBr.out
              rw [← HL.out, List.take_length] at this; exact this)
            have hall0 : (L.take k).flatten.length = rem L.flatten 0 := by
              rw [← HL.out, List.take_length, rem_zero (fun z hz => (hg.out.rng z hz).1)]
            rw [hall0]
            clear hBr hall0
            have hR0 : rem L.flatten 0 ≤ 4194304 := by rw [rem_zero (fun z hz => (hg.out.rng z hz).1)]; exact hg.out.count
            have hRd : Hid (∀ d, rem L.flatten d ≤ 4194304) := hid (fun d => by
              unfold rem
              exact Nat.le_trans (List.length_filter_le _ _) hg.out.count)
            clear hR0
            go_wp2_with fail
            go_loopw [13, 17] (fun p1 p2 wr => ∃ d : Nat, p2 = .int .i64 d ∧ p1 = .int .i64 ((rem L.flatten d : Nat) : Int) ∧ d ≤ 32 ∧ Hid (Blk wr T 38 (hc (cnts L.flatten))) ∧ Hid (HasR wc P L (fun x => x = T) wr)) (fun _ p _ => 32 - (RowKit.intOf p).toNat)
            case atStart => exact ⟨0, rfl, rfl, Nat.zero_le _, HB7, hTr⟩
            case round =>
              obtain ⟨d, rfl, rfl, hd, hBr, hTr⟩ := hrel
              clear HB7
              by_cases hlt3 : d < 32
              · have hct := hBr.out.cell (hc_at (cnts_at (xs := L.flatten) hlt3))
                have hro : ∀ m, Calls Try.prog 17 #[.pointer (some ⟨P, 0, none⟩), .int .i64 (d : Int)] (wr.drewN m) fun e w' => e = .returned (.int .i64 (rv (rowOf L (d : Int)))) ∧ ∃ k, w' = wr.drewN k := fun m =>
                  (has_row (w := wr.drewN m) (hTr.out.after (drewn_below (Below.refl _ _) m)) (d : Int) (by unfold i64ok; omega)).mono fun e w' ⟨h1, h2⟩ => ⟨h1, m, h2.symm⟩
                have hst := rem_step L.flatten d
                have hRb := hRd.out d
                obtain ⟨R, hR⟩ : ∃ R, R = rem L.flatten (d + 1) := ⟨_, rfl⟩
                rw [← hR] at hst
                have HR := hid hR
                have i1 : 0 ≤ (d : Int) := by omega
                have i2 : (d : Int) < 32 := by omega
                rcases count_row hg.out (d : Int) with ⟨hc1, jr, hr1⟩ | ⟨hc1, hr1⟩
                · rw [hc1] at hct hst
                  rw [hr1] at hro
                  replace hro : ∀ m, Calls Try.prog 17 #[.pointer (some ⟨P, 0, none⟩), .int .i64 (d : Int)] (wr.drewN m) fun e w' => e = .returned (.int .i64 (jr : Int)) ∧ ∃ k, w' = wr.drewN k := hro
                  replace hct : wr.cell? ⟨T, d, none⟩ = some (.int .i64 1) := hct
                  rw [hst] at hRb ⊢
                  have i3 : 0 ≤ (jr : Int) := by omega
                  have hq := hid (fun m => hTr.out.after (drewn_below (Below.refl _ _) m))
                  have hBq := hid (fun m => hBr.out.below (drewn_below (Below.refl wr.heap.size wr) m))
                  have HCT := hid hct
                  clear hR hc1 hr1 hst hTr hBr
                  go_wp2_with fail
                  go_quiet (exact hro _)
                  have hct2 : (wr.drewN nq).cell? ⟨T, d, none⟩ = some (.int .i64 1) := HCT.out
                  clear hct hro
                  go_wp2_with fail
                  go_roundw
                  case rel => exact ⟨d + 1, by go_num, by first | (rw [← HR.out]; done) | (rw [← HR.out]; go_num), by omega, hid (hBq.out _), hid (hq.out _)⟩
                  case measure => simp [RowKit.intOf] <;> omega
                · rw [hc1] at hct hst
                  rw [hr1] at hro
                  replace hro : ∀ m, Calls Try.prog 17 #[.pointer (some ⟨P, 0, none⟩), .int .i64 (d : Int)] (wr.drewN m) fun e w' => e = .returned (.int .i64 (-1)) ∧ ∃ k, w' = wr.drewN k := hro
                  replace hct : wr.cell? ⟨T, d, none⟩ = some (.int .i64 0) := hct
                  rw [hst] at hRb ⊢
                  have hq := hid (fun m => hTr.out.after (drewn_below (Below.refl _ _) m))
                  have hBq := hid (fun m => hBr.out.below (drewn_below (Below.refl wr.heap.size wr) m))
                  have HCT := hid hct
                  clear hR hc1 hr1 hst hTr hBr
                  go_wp2_with fail
                  go_quiet (exact hro _)
                  have hct2 : (wr.drewN nq).cell? ⟨T, d, none⟩ = some (.int .i64 0) := HCT.out
                  clear hct hro
                  go_wp2_with fail
                  go_roundw
                  case rel => exact ⟨d + 1, by go_num, by first | (rw [← HR.out]; done) | (rw [← HR.out]; go_num), by omega, hid (hBq.out _), hid (hq.out _)⟩
                  case measure => simp [RowKit.intOf] <;> omega
              · obtain rfl : d = 32 := by omega
                rw [rem_end (fun z hz => hS.out z hz)]
                have HB := hid (Below.then b1 hTr.out.below)
                clear hBr hTr
                go_wp2_with fail
                go_ret
                exact ⟨rfl, HB.out⟩
end Go.Proofs.Ytifbjbebnjjflaa
