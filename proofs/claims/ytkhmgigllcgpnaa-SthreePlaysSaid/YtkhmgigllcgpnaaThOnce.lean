/-
  Who comes once goes by way of small, and drives nobody out of main: the statement, walked. No conditions but those of the calls.
-/
import Derived.Test.YtkhmgigllcgpnaaThFirst
import Derived.Deep.CutBlock
namespace Go.Proofs.Ytkhmgigllcgpnaa.Th
open Go Go.RowKit Go.Lib

theorem Sn.gl {o k : Nat} {s : Th} (h : Sn o k s) : s.g.length = min o 20 := by rw [h.g, cut_range_len]
theorem Sn.gat {o k : Nat} {s : Th} (h : Sn o k s) (ho : 0 < o) : (Gh.uc s.g)[s.g.length - 1]? = some (.int .u64 ((1000 + (o - 1) : Nat) : Int)) := by
  rw [h.gl, h.g]
  refine Gh.uc_at ((cut_at 20 o (fun j : Nat => ((1000 + j : Nat) : Int)) (by omega)).trans ?_)
  congr 2; omega
theorem Sn.vic0 {s : Th} (h : Sn 0 0 s) : 0 ≤ s.vic.1 ∧ s.vic.1 ≤ 4194303 := by
  have ht := tells h.ok
  have h1 := (ht.2.2.2.2 (by rw [h.tot]; decide)).1
  exact h.vic.ok.good.rng _ h1

set_option maxRecDepth 100000 in
set_option maxHeartbeats 2000000 in
theorem scan_law (n : Int) (q1 : -9223372036854775808 ≤ n) (q2 : n ≤ 9223372036854775807) (w : World) :
    Calls Try.prog 5 #[.int .i64 n] w fun e w' => e = .returned (.bool true) ∧ Below w.heap.size w w' := by
  have hsh := shown_any w
  obtain ⟨jq, hp⟩ := fold_neg n
  have hjq : jq ≤ 9223372036854775807 := by omega
  go_enter Try.func5, Try.ntmps5
  go_wp2_with fail
  refine hsh.mono ?_
  rintro e w1 ⟨rfl, b1⟩
  have hnew := tt_new w1
  have B1 := hid b1
  clear hsh b1
  go_wp2_with fail
  refine hnew.mono ?_
  rintro e w2 ⟨P, rfl, h2⟩
  have h2 := hid h2
  clear hnew
  go_upto_if 20 with fail
  go_cut [0] from 19 to 23 (fun a wx => wx = w2 ∧ a = .int .i64 jq)
  case first =>
    rcases hp with ⟨t0, rfl⟩ | ⟨t0, rfl⟩
    all_goals
      go_wp2_with fail
      go_meet
      exact ⟨rfl, by go_num⟩
  case rest =>
  obtain ⟨rfl, rfl⟩ := hcut
  obtain ⟨m, hk, hk1, hk2⟩ : ∃ m : Nat, (jq : Int) % 200 = m ∧ m < 200 ∧ (jq : Int).tmod 200 = (m : Int) := ⟨jq % 200, by omega, by omega, by rw [Int.tmod_eq_emod_of_nonneg (by omega)]; omega⟩
  have hc := tt_cap h2.out 20 (small_i64 (by omega) (by omega))
  clear hp q1 q2 h2
  go_wp2_with fail
  clear hk hk2 hjq
  refine hc.mono ?_
  rintro e w3 ⟨rfl, h4, -⟩
  have h4 := hid (And.intro Ten.new h4)
  clear hc
  go_wp2_with fail
  go_loopw [5] (fun p wr => ∃ (k : Nat) (s : Th), p = .int .i64 (k : Int) ∧ k ≤ 10 ∧ Hid (Ten k s ∧ TT w1 P s (fun _ => False) wr)) (fun p _ => 10 - (RowKit.intOf p).toNat)
  case atStart => exact ⟨0, _, rfl, Nat.zero_le _, h4⟩
  case round =>
    obtain ⟨k, s, rfl, hk, hT⟩ := hrel
    clear h4
    by_cases hlt : k < 10
    · obtain ⟨e1, e2, e3, e4, e5⟩ := hT.out.1.more hlt
      have hin := tt_insert hT.out.2 (k : Int) (k : Int) (small_i64 (by omega) (by omega)) (small_u64 (by omega) (by omega))
      rw [e1] at hin
      have i1 : (k : Int) < 10 := by omega
      have i3 : IntKind.u64.wrap (k : Int) = (k : Int) := by rw [IntKind.wrap_u64]; omega
      have HT : Hid (∀ t w4, TT w1 P t (fun _ => False) w4 → t.has (k : Int) = true → Calls Try.prog 21 #[.pointer (some ⟨P, 0, none⟩), .int .i64 (k : Int)] w4 fun e w' => e = .returned (.bool true) ∧ TT w1 P (t.tch (k : Int)) (fun _ => False) w') := hid (fun t w4 h hh => by
        have := tt_touch h (k : Int) (small_i64 (by omega) (by omega))
        rw [hh] at this
        exact this.mono fun e w' ⟨k1, k2, _⟩ => ⟨k1, k2⟩)
      have E := hid (And.intro e2 (And.intro e3 (And.intro e4 e5)))
      clear hT e1 e2 e3 e4 e5
      generalize s.ins (k : Int) (k : Int) = s1 at *
      go_wp2_with fail
      refine hin.mono ?_
      rintro e w4 ⟨rfl, h5, -⟩
      have hto := HT.out _ _ h5 E.out.1
      clear hin h5
      go_wp2_with fail
      refine hto.mono ?_
      rintro e w5 ⟨rfl, h5⟩
      clear hto
      have hto := HT.out _ _ h5 E.out.2.1
      clear h5
      go_wp2_with fail
      refine hto.mono ?_
      rintro e w6 ⟨rfl, h5⟩
      clear hto
      have hto := HT.out _ _ h5 E.out.2.2.1
      clear h5
      go_wp2_with fail
      refine hto.mono ?_
      rintro e w7 ⟨rfl, h5⟩
      have h6 := hid (And.intro E.out.2.2.2 h5)
      clear hto h5 HT E
      go_wp2_with fail
      go_roundw
      case rel => first | exact ⟨k + 1, _, by go_num, by omega, h6⟩ | ((repeat apply Exists.intro); exact ⟨⟨k + 1, _, by go_num, by omega, h6⟩, rfl⟩)
      case measure => simp [RowKit.intOf] <;> omega
    · obtain rfl : k = 10 := by omega
      have hS := hid hT.out.1.scan
      have hv := tt_victim hT.out.2
      have v0 := hS.out.vic0
      have hS2 := hid hS.out.vic
      obtain ⟨v01, v02⟩ := v0
      clear hT hlt hk hS
      generalize s.vic.1 = V at *
      generalize s.vic.2 = s2 at *
      go_wp2_with fail
      refine hv.mono ?_
      rintro e w4 ⟨rfl, h5, -⟩
      have ha0 := tt_all h5 0
      have htot := hS2.out.tot
      replace htot : (rowAt s2.L 0).length + (rowAt s2.L 1).length = 0 + 10 := htot
      obtain ⟨K0, hK0⟩ : ∃ K, K = (rowAt s2.L 0).length := ⟨_, rfl⟩
      obtain ⟨K1, hK1⟩ : ∃ K, K = (rowAt s2.L 1).length := ⟨_, rfl⟩
      rw [← hK0] at ha0
      have HA1 : Hid (∀ w9, TT w1 P s2 (fun _ => False) w9 → Calls Try.prog 16 #[.pointer (some ⟨P, 0, none⟩), .int .i64 1] w9 fun e w' => ∃ v, e = .returned v ∧ w'.ownsRow w9.heap.size 3 1 v K1 (ic (rowAt s2.L 1)) ∧ TT w1 P s2 (fun _ => False) w' ∧ Below w9.heap.size w9 w') := hid (fun w9 h => by
        have := tt_all h 1
        rw [← hK1] at this
        exact this)
      have ktot : (K0 : Int) + (K1 : Int) = 10 := by omega
      clear hv h5 htot hK0 hK1
      go_wp2_with fail
      refine ha0.mono ?_
      rintro e w5 ⟨v, rfl, ho, h6, -⟩
      obtain ⟨a5, c5, rfl⟩ := row_form ho
      have ha1 := HA1.out _ h6
      clear ha0 ho h6 HA1
      go_wp2_with fail
      refine ha1.mono ?_
      rintro e w6 ⟨v, rfl, ho, h6, -⟩
      obtain ⟨a6, c6, rfl⟩ := row_form ho
      have h6 := hid (And.intro hS2.out h6)
      clear ha1 ho hS2
      go_wp2_with fail
      go_loopw [6, 7] (fun gv p wr => ∃ (o k : Nat) (s : Th), gv = .int .i64 (o : Int) ∧ p = .int .i64 ((o : Int) + (k : Int)) ∧ o + k ≤ m ∧ k ≤ 10 ∧ Hid (Sn o k s ∧ TT w1 P s (fun _ => False) wr)) (fun _ p _ => m - (RowKit.intOf p).toNat)
      case atStart => exact ⟨0, 0, _, rfl, rfl, Nat.zero_le _, Nat.zero_le _, h6⟩
      case round =>
        obtain ⟨o, k, s, rfl, rfl, hi, hk10, hT⟩ := hrel
        clear h6 ktot v01 v02
        by_cases hlt : o + k < m
        · have ha0 := tt_all hT.out.2 0
          have hS := hid hT.out.1
          have htot := hT.out.1.tot
          replace htot : (rowAt s.L 0).length + (rowAt s.L 1).length = k + 10 := htot
          obtain ⟨K0, hK0⟩ : ∃ K, K = (rowAt s.L 0).length := ⟨_, rfl⟩
          obtain ⟨K1, hK1⟩ : ∃ K, K = (rowAt s.L 1).length := ⟨_, rfl⟩
          rw [← hK0] at ha0
          have HA1 : Hid (∀ w9, TT w1 P s (fun _ => False) w9 → Calls Try.prog 16 #[.pointer (some ⟨P, 0, none⟩), .int .i64 1] w9 fun e w' => ∃ v, e = .returned v ∧ w'.ownsRow w9.heap.size 3 1 v K1 (ic (rowAt s.L 1)) ∧ TT w1 P s (fun _ => False) w' ∧ Below w9.heap.size w9 w') := hid (fun w9 h => by
            have := tt_all h 1
            rw [← hK1] at this
            exact this)
          have i0 : (o : Int) + (k : Int) < (m : Int) := by omega
          have i1 : 0 ≤ (o : Int) + (k : Int) ∧ (o : Int) ≤ 200 := by omega
          have i2 : (o : Int) + (k : Int) < 200 := by omega
          obtain ⟨i1, i1'⟩ := i1
          have i4 : IntKind.u64.wrap (1000 + ((o : Int) + (k : Int))) = 1000 + ((o : Int) + (k : Int)) := by rw [IntKind.wrap_u64]; omega
          have HI : Hid (∀ (o' k' : Nat) t w5, o' + k' = o + k → Sn o' k' t → TT w1 P t (fun _ => False) w5 → Calls Try.prog 20 #[.pointer (some ⟨P, 0, none⟩), .int .i64 (1000 + ((o : Int) + (k : Int))), .int .u64 (1000 + ((o : Int) + (k : Int)))] w5 fun e w' => e = .returned (.bool true) ∧ ∃ t', Hid (Sn o' (k' + 1) t' ∧ TT w1 P t' (fun _ => False) w')) := hid (fun o' k' t w5 he hS hA => by
            obtain ⟨g1, g2⟩ := hS.ins (by omega)
            have e : ((1000 + o' + k' : Nat) : Int) = 1000 + ((o : Int) + (k : Int)) := by omega
            rw [e] at g1 g2
            have := tt_insert hA (1000 + ((o : Int) + (k : Int))) (1000 + ((o : Int) + (k : Int))) (small_i64 (by omega) (by omega)) (small_u64 (by omega) (by omega))
            rw [g1] at this
            exact this.mono fun e w' ⟨k1, k2, _⟩ => ⟨k1, _, hid ⟨g2, k2⟩⟩)
          by_cases hfull : k = 10
          · have kt : (K0 : Int) + (K1 : Int) = 20 := by omega
            subst hfull
            obtain ⟨g1, g2, g3, g4⟩ := hS.out.who (by decide)
            have hgl := g2.gl
            have hv0 : Hid (∀ w5, TT w1 P s (fun _ => False) w5 → Calls Try.prog 22 #[.pointer (some ⟨P, 0, none⟩)] w5 fun e w' => e = .returned (.int .i64 (1000 + (o : Int))) ∧ TT w1 P s.vic.2 (fun _ => False) w') := hid (fun w5 h => by
              have := tt_victim h
              rw [g1, show ((1000 + o : Nat) : Int) = 1000 + (o : Int) by omega] at this
              exact this.mono fun e w' ⟨k1, k2, _⟩ => ⟨k1, k2⟩)
            have HE : Hid (∀ w6, TT w1 P s.vic.2 (fun _ => False) w6 → Calls Try.prog 23 #[.pointer (some ⟨P, 0, none⟩), .int .i64 (1000 + (o : Int))] w6 fun e w' => e = .returned (.bool true) ∧ Calls Try.prog 20 #[.pointer (some ⟨P, 0, none⟩), .int .i64 (1000 + ((o : Int) + ((10 : Nat) : Int))), .int .u64 (1000 + ((o : Int) + ((10 : Nat) : Int)))] w' fun e w' => e = .returned (.bool true) ∧ ∃ t', Hid (Sn (o + 1) 10 t' ∧ TT w1 P t' (fun _ => False) w')) := hid (fun w6 hA => by
              have := tt_evict hA (by rw [hgl]; omega) ((1000 + o : Nat) : Int) (small_i64 (by omega) (by omega))
              rw [g3, show ((1000 + o : Nat) : Int) = 1000 + (o : Int) by omega] at this
              rw [show ((1000 + o : Nat) : Int) = 1000 + (o : Int) by omega] at g4
              exact this.mono fun e w' ⟨k1, k2, _⟩ => ⟨k1, HI.out (o + 1) 9 _ _ (by omega) g4 k2⟩)
            clear hT hK0 hK1 htot g1 g2 g3 g4 hgl HI hS
            generalize s.vic.2 = s2 at *
            go_wp2_with fail
            refine ha0.mono ?_
            rintro e w4 ⟨v, rfl, ho, h6, -⟩
            obtain ⟨a4, c4, rfl⟩ := row_form ho
            have ha1 := HA1.out _ h6
            clear ha0 ho h6 HA1
            go_wp2_with fail
            refine ha1.mono ?_
            rintro e w5 ⟨v, rfl, ho, h7, -⟩
            obtain ⟨a5, c5, rfl⟩ := row_form ho
            have hv := hv0.out _ h7
            clear ha1 ho h7 hv0
            go_wp2_with fail
            refine hv.mono ?_
            rintro e w6 ⟨rfl, h8⟩
            have he := HE.out _ h8
            clear hv h8 HE
            go_wp2_with fail
            refine he.mono ?_
            rintro e w7 ⟨rfl, hin⟩
            clear he
            go_wp2_with fail
            refine hin.mono ?_
            rintro e w8 ⟨rfl, t', h9⟩
            clear hin
            go_wp2_with fail
            go_roundw
            case rel => first | exact ⟨o + 1, 10, t', by go_num, by go_num, by omega, by omega, h9⟩ | ((repeat apply Exists.intro); exact ⟨⟨o + 1, 10, t', by go_num, by go_num, by omega, by omega, h9⟩, rfl⟩)
            case measure => simp [RowKit.intOf] <;> omega
          · have kt : (K0 : Int) + (K1 : Int) < 20 := by omega
            have kb : (0 : Int) ≤ (K0 : Int) + (K1 : Int) := by omega
            have hk9 : k + 1 ≤ 10 := by omega
            clear hT hK0 hK1 htot
            go_wp2_with fail
            refine ha0.mono ?_
            rintro e w4 ⟨v, rfl, ho, h6, -⟩
            obtain ⟨a4, c4, rfl⟩ := row_form ho
            have ha1 := HA1.out _ h6
            clear ha0 ho h6 HA1
            go_wp2_with fail
            refine ha1.mono ?_
            rintro e w5 ⟨v, rfl, ho, h7, -⟩
            obtain ⟨a5, c5, rfl⟩ := row_form ho
            have hin := HI.out o k _ _ rfl hS.out h7
            clear ha1 ho h7 HI hS
            go_wp2_with fail
            refine hin.mono ?_
            rintro e w8 ⟨rfl, t', h9⟩
            clear hin
            go_wp2_with fail
            go_roundw
            case rel => first | exact ⟨o, k + 1, t', rfl, by go_num, by omega, by omega, h9⟩ | ((repeat apply Exists.intro); exact ⟨⟨o, k + 1, t', rfl, by go_num, by omega, by omega, h9⟩, rfl⟩)
            case measure => simp [RowKit.intOf] <;> omega
        · obtain rfl : m = o + k := by omega
          have o200 : (o : Int) ≤ 200 := by omega
          clear hlt hi
          go_wp2_with fail
          go_loopw [9] (fun p wr => ∃ j : Nat, p = .int .i64 (j : Int) ∧ j ≤ 10 ∧ Hid (Sn o k s ∧ TT w1 P s (fun _ => False) wr)) (fun p _ => 10 - (RowKit.intOf p).toNat)
          case atStart => exact ⟨0, rfl, Nat.zero_le _, hT⟩
          case round =>
            obtain ⟨j, rfl, hj, hU⟩ := hrel
            clear hT
            by_cases hlt : j < 10
            · have hco := tt_count hU.out.2 (j : Int) (small_i64 (by omega) (by omega))
              have hlow := hU.out.1.low (z := (j : Int)) (by omega) (by omega)
              have hS := hid hU.out.1
              have j1 : (j : Int) < 10 := by omega
              clear hU
              generalize s.count (j : Int) = C at *
              go_wp2_with fail
              refine hco.mono ?_
              rintro e w4 ⟨rfl, h5, -⟩
              have h5 := hid (And.intro hS.out h5)
              clear hco hS
              go_wp2_with fail
              go_roundw
              case rel => first | exact ⟨j + 1, by go_num, by omega, h5⟩ | ((repeat apply Exists.intro); exact ⟨⟨j + 1, by go_num, by omega, h5⟩, rfl⟩)
              case measure => simp [RowKit.intOf] <;> omega
            · obtain rfl : j = 10 := by omega
              have hg := tt_ghosts hU.out.2
              have hgl := hU.out.1.gl
              have HG := hid (fun h => hU.out.1.gat h)
              obtain ⟨G, hG⟩ : ∃ G, G = s.g.length := ⟨_, rfl⟩
              rw [← hG] at hg hgl HG
              clear hU hlt hj hG
              go_wp2_with fail
              refine hg.mono ?_
              rintro e w4 ⟨v, rfl, ho, h5, -⟩
              have HB := hid (Below.then B1.out h5.below)
              clear hg h5
              rcases Nat.eq_zero_or_pos o with e0 | e0
              · subst e0
                obtain ⟨a4, c4, rfl⟩ := row_form ho
                have hG0 : G = 0 := by omega
                subst hG0
                clear ho HG hgl
                go_wp2_with fail
                go_ret
                exact ⟨rfl, HB.out⟩
              · have gpos : 0 < G := by omega
                obtain ⟨g, cap, rfl, hcap, hgb, hgl2⟩ := row_pos ho gpos
                have hcx := ho.cellAt (G - 1) (by omega)
                rw [HG.out e0] at hcx
                have e3 : ((1000 + (o - 1) : Nat) : Int) = 1000 + (o : Int) - 1 := by omega
                rw [e3] at hcx
                have u1 : IntKind.u64.wrap (1000 + (o : Int) - 1) = 1000 + (o : Int) - 1 := by rw [IntKind.wrap_u64]; omega
                clear HG hcap hgb hgl2 ho
                rcases Nat.lt_or_ge 20 o with l20 | l20
                · have hGo : G = 20 := by omega
                  subst hGo
                  have l20' : 20 < (o : Int) := by omega
                  clear hgl
                  go_wp2_with fail
                  go_ret
                  exact ⟨rfl, HB.out⟩
                · have hGo : G = o := by omega
                  subst hGo
                  have l20' : (G : Int) ≤ 20 := by omega
                  have gp : 0 < (G : Int) := by omega
                  have gm : ((G - 1 : Nat) : Int) = (G : Int) - 1 := by omega
                  clear hgl
                  go_wp2_with fail
                  go_ret
                  exact ⟨rfl, HB.out⟩
end Go.Proofs.Ytkhmgigllcgpnaa.Th
