/-
  Who is to go stands, and is told again: the statement, walked. No conditions but those of the calls.
-/
import Derived.Test.YtkhmgigllcgpnaaThOnce
namespace Go.Proofs.Ytkhmgigllcgpnaa.Th
open Go Go.RowKit Go.Lib

theorem ins_tot {s : Th} (h : s.Ok) {z x : Int} (hb : s.insB z = true) : (s.ins z x).tot = s.tot + 1 := by
  have ok := h.ins z x
  have hz : okId z = true := by unfold Th.insB at hb; exact (Bool.and_eq_true _ _ ▸ hb).2
  have hn : z ∉ s.L.flatten := fun hm => by
    unfold Th.insB at hb
    rw [show s.has z = true from arow_some.2 hm] at hb; cases hb
  have hL : (s.ins z x).L = opFront s.L (if x ∈ s.g then 1 else 0) z := by unfold Th.ins; rw [if_pos hb]
  have hm : May s.L.length (if x ∈ s.g then 1 else 0) z := by split <;> exact may2 h.two (by decide) (by decide) hz
  rw [tot_eq h, tot_eq ok]
  have hnd : (z :: s.L.flatten).Nodup := List.nodup_cons.2 ⟨hn, h.good.nd⟩
  have := perm_len ok.good.nd hnd (fun y => by rw [hL, opF_mem hm, List.mem_cons])
  rw [this]; rfl
theorem ins_not {s : Th} {z x : Int} (hb : s.insB z = false) : s.ins z x = s := by unfold Th.ins; rw [hb]; rfl
theorem tch_tot (s : Th) (z : Int) : (s.tch z).tot = s.tot := by unfold Th.tch; split <;> rfl
structure Tl (t : Nat) (s : Th) : Prop where
  ok : s.Ok
  tot : s.tot = t
theorem Tl.new (n : Int) (hn : n ≤ 9223372036854775807) : Tl 0 (new.cap n) := ⟨new_ok.cap hn, rfl⟩
theorem Tl.count {t : Nat} {s : Th} (h : Tl t s) (z : Int) : (s.has z = false ∧ s.count z = -1 ∧ s.tch z = s) ∨ ∃ c : Nat, s.has z = true ∧ s.count z = (c : Int) ∧ c ≤ 3 ∧ (s.tch z).count z = ((min 3 (c + 1) : Nat) : Int) := by
  cases e : s.has z
  · left
    exact ⟨rfl, by unfold Th.count; rw [e]; rfl, by unfold Th.tch; rw [e]; rfl⟩
  · right
    refine ⟨s.cnt z, rfl, by unfold Th.count; rw [e]; rfl, h.ok.three z, ?_⟩
    have e1 : s.tch z = { s with cnt := updN s.cnt z (min 3 (s.cnt z + 1)) } := by unfold Th.tch; rw [if_pos e]
    have e2 : (s.tch z).has z = true := by rw [e1]; exact e
    unfold Th.count
    rw [e2, if_pos rfl, e1]
    show ((updN s.cnt z (min 3 (s.cnt z + 1)) z : Nat) : Int) = _
    rw [updN_same]
theorem Tl.tch {t : Nat} {s : Th} (h : Tl t s) (z : Int) : Tl t (s.tch z) := ⟨h.ok.tch z, (tch_tot s z).trans h.tot⟩

set_option maxRecDepth 100000 in
set_option maxHeartbeats 2000000 in
theorem tells_law (a1 : Option Addr) (n1 c1 : Nat) (xs1 : List Int) (a2 : Option Addr) (n2 c2 : Nat) (xs2 : List Int) (pl : Int) (w : World) (hx1 : Nums w a1 n1 xs1) (hx2 : Nums w a2 n2 xs2) :
    Calls Try.prog 4 #[.slice a1 n1 c1, .slice a2 n2 c2, .int .i64 pl] w fun e w' => e = .returned (.bool true) ∧ Below w.heap.size w w' := by
  have hsh := shown_any w
  have HX1 := hid hx1
  have HX2 := hid hx2
  obtain ⟨m, hm, hm128⟩ : ∃ m : Nat, bits .and .i64 pl 127 = (m : Int) ∧ m < 128 := ⟨(pl % 128).toNat, by rw [i64_and127]; omega, by omega⟩
  clear hx1 hx2
  go_enter Try.func4, Try.ntmps4
  go_wp2_with fail
  refine hsh.mono ?_
  rintro e w1 ⟨rfl, b1⟩
  have hnew := tt_new w1
  have B1 := hid b1
  clear hsh b1
  go_wp2_with fail
  refine hnew.mono ?_
  rintro e w2 ⟨P, rfl, h2⟩
  have hc := tt_cap h2 (m : Int) (small_i64 (by omega) (by omega))
  clear hnew h2
  go_wp2_with fail
  refine hc.mono ?_
  rintro e w3 ⟨rfl, h3, -⟩
  have h3 := hid (And.intro (Tl.new (m : Int) (by omega)) h3)
  clear hc hm
  go_wp2_with fail
  go_loopw [9, 10] (fun tv p wr => ∃ (t i : Nat) (s : Th), tv = .int .i64 (t : Int) ∧ p = .int .i64 (i : Int) ∧ t ≤ i ∧ i ≤ 60 ∧ i ≤ n1 ∧ Hid (Tl t s ∧ TT w1 P s (fun _ => False) wr)) (fun _ p _ => 60 - (RowKit.intOf p).toNat)
  case atStart => exact ⟨0, 0, _, rfl, rfl, Nat.zero_le _, Nat.zero_le _, Nat.zero_le _, h3⟩
  case round =>
    obtain ⟨t, i, s, rfl, rfl, hti, hi, hin, hT⟩ := hrel
    clear h3
    by_cases hlt : i < n1 ∧ i < 60
    · obtain ⟨l1, l2⟩ := hlt
      obtain ⟨z1, hz1⟩ : ∃ z, xs1[i]? = some z := ⟨_, List.getElem?_eq_getElem (by rw [HX1.out.1]; exact l1)⟩
      obtain ⟨B1', o1, rfl, hbl1, hbc1⟩ := HX1.out.2 i z1 hz1
      have hb4 := Below.then B1.out hT.out.2.below
      have d1 := (hb4.cell (p := ⟨B1', o1 + i, none⟩) hbl1).trans hbc1
      obtain ⟨q, hq, hq16⟩ : ∃ q : Nat, bits .and .i64 z1 65535 = (q : Int) ∧ q < 65536 := ⟨(z1 % 65536).toNat, by rw [i64_and65535]; omega, by omega⟩
      have i1 : (i : Int) < (n1 : Int) := by omega
      have i2 : (i : Int) < 60 := by omega
      have q3 : IntKind.u64.wrap (q : Int) = (q : Int) := by rw [IntKind.wrap_u64]; omega
      have hins := tt_insert hT.out.2 (q : Int) (q : Int) (small_i64 (by omega) (by omega)) (small_u64 (by omega) (by omega))
      have t1 : (t : Int) ≤ 60 := by omega
      clear hz1 hbc1 hb4
      cases eb : s.insB (q : Int)
      · rw [ins_not eb, eb] at hins
        have hS := hid hT.out.1
        clear hT
        go_wp2_with fail
        refine hins.mono ?_
        rintro e w4 ⟨rfl, h4, -⟩
        have h4 := hid (And.intro hS.out h4)
        clear hins hS d1
        go_wp2_with fail
        go_roundw
        case rel => first | exact ⟨t, i + 1, s, rfl, by go_num, by omega, by omega, by omega, h4⟩ | ((repeat apply Exists.intro); exact ⟨⟨t, i + 1, s, rfl, by go_num, by omega, by omega, by omega, h4⟩, rfl⟩)
        case measure => simp [RowKit.intOf] <;> omega
      · have hS : Hid (Tl (t + 1) (s.ins (q : Int) (q : Int))) := hid ⟨hT.out.1.ok.ins _ _, by rw [ins_tot hT.out.1.ok eb, hT.out.1.tot]⟩
        rw [eb] at hins
        clear hT
        generalize s.ins (q : Int) (q : Int) = s1 at *
        go_wp2_with fail
        refine hins.mono ?_
        rintro e w4 ⟨rfl, h4, -⟩
        have h4 := hid (And.intro hS.out h4)
        clear hins hS d1
        go_wp2_with fail
        go_roundw
        case rel => first | exact ⟨t + 1, i + 1, s1, by go_num, by go_num, by omega, by omega, by omega, h4⟩ | ((repeat apply Exists.intro); exact ⟨⟨t + 1, i + 1, s1, by go_num, by go_num, by omega, by omega, by omega, h4⟩, rfl⟩)
        case measure => simp [RowKit.intOf] <;> omega
    · have hstop : (n1 : Int) ≤ (i : Int) ∨ ((i : Int) < (n1 : Int) ∧ (60 : Int) ≤ (i : Int)) := by omega
      have t60 : t ≤ 60 := by omega
      clear hlt hti hi hin
      rcases hstop with h0 | ⟨h0, h0'⟩
      all_goals
        go_wp2_with fail
        go_loopw [12] (fun p wr => ∃ (j : Nat) (s : Th), p = .int .i64 (j : Int) ∧ j ≤ 120 ∧ j ≤ n2 ∧ Hid (Tl t s ∧ TT w1 P s (fun _ => False) wr)) (fun p _ => 120 - (RowKit.intOf p).toNat)
        case atStart => exact ⟨0, _, rfl, Nat.zero_le _, Nat.zero_le _, hT⟩
        case round =>
          obtain ⟨j, s, rfl, hj, hjn, hU⟩ := hrel
          clear hT
          by_cases hlt : j < n2 ∧ j < 120
          · obtain ⟨l1, l2⟩ := hlt
            obtain ⟨z1, hz1⟩ : ∃ z, xs2[j]? = some z := ⟨_, List.getElem?_eq_getElem (by rw [HX2.out.1]; exact l1)⟩
            obtain ⟨B2', o2, rfl, hbl1, hbc1⟩ := HX2.out.2 j z1 hz1
            have hb4 := Below.then B1.out hU.out.2.below
            have d1 := (hb4.cell (p := ⟨B2', o2 + j, none⟩) hbl1).trans hbc1
            obtain ⟨q, hq, hq16⟩ : ∃ q : Nat, bits .and .i64 z1 65535 = (q : Int) ∧ q < 65536 := ⟨(z1 % 65536).toNat, by rw [i64_and65535]; omega, by omega⟩
            have i1 : (j : Int) < (n2 : Int) := by omega
            have i2 : (j : Int) < 120 := by omega
            have hco := tt_count hU.out.2 (q : Int) (small_i64 (by omega) (by omega))
            have HT : Hid (∀ w4, TT w1 P s (fun _ => False) w4 → Calls Try.prog 21 #[.pointer (some ⟨P, 0, none⟩), .int .i64 (q : Int)] w4 fun e w' => e = .returned (.bool (s.has (q : Int))) ∧ TT w1 P (s.tch (q : Int)) (fun _ => False) w') := hid (fun w4 h => (tt_touch h (q : Int) (small_i64 (by omega) (by omega))).mono fun e w' ⟨k1, k2, _⟩ => ⟨k1, k2⟩)
            have HS2 := hid (hU.out.1.tch (q : Int))
            have HC2 : Hid (∀ w4, TT w1 P (s.tch (q : Int)) (fun _ => False) w4 → Calls Try.prog 14 #[.pointer (some ⟨P, 0, none⟩), .int .i64 (q : Int)] w4 fun e w' => e = .returned (.int .i64 ((s.tch (q : Int)).count (q : Int))) ∧ TT w1 P (s.tch (q : Int)) (fun _ => False) w') := hid (fun w4 h => (tt_count h (q : Int) (small_i64 (by omega) (by omega))).mono fun e w' ⟨k1, k2, _⟩ => ⟨k1, k2⟩)
            have hcs := hU.out.1.count (q : Int)
            clear hz1 hbc1 hb4
            rcases hcs with ⟨c1', c2', c3'⟩ | ⟨c, c1', c2', c3', c4'⟩
            · rw [c2'] at hco
              rw [c1'] at HT
              clear HC2 hU c3' c1' c2'
              go_wp2_with fail
              refine hco.mono ?_
              rintro e w4 ⟨rfl, h4, -⟩
              have hto := HT.out _ h4
              clear hco h4 HT
              go_wp2_with fail
              refine hto.mono ?_
              rintro e w5 ⟨rfl, h5⟩
              have h5 := hid (And.intro HS2.out h5)
              clear hto HS2 d1
              go_wp2_with fail
              go_roundw
              case rel => first | exact ⟨j + 1, _, by go_num, by omega, by omega, h5⟩ | ((repeat apply Exists.intro); exact ⟨⟨j + 1, _, by go_num, by omega, by omega, h5⟩, rfl⟩)
              case measure => simp [RowKit.intOf] <;> omega
            · rw [c2'] at hco
              rw [c1'] at HT
              have hC : Hid ((c ≤ 2 ∧ (s.tch (q : Int)).count (q : Int) = (c : Int) + 1) ∨ (c = 3 ∧ (s.tch (q : Int)).count (q : Int) = 3)) := hid (by rw [c4']; omega)
              have cc0 : (0 : Int) ≤ (c : Int) := by omega
              have cc3 : (c : Int) ≤ 3 := by omega
              clear hU c4' c1' c2'
              generalize (s.tch (q : Int)).count (q : Int) = C2 at *
              go_wp2_with fail
              refine hco.mono ?_
              rintro e w4 ⟨rfl, h4, -⟩
              have hto := HT.out _ h4
              clear hco h4 HT
              go_wp2_with fail
              refine hto.mono ?_
              rintro e w5 ⟨rfl, h5⟩
              have hc2 := HC2.out _ h5
              clear hto h5 HC2
              generalize s.tch (q : Int) = s2 at *
              rcases hC.out with ⟨e1, e2⟩ | ⟨e1, e2⟩
              · subst e2
                have e1' : (c : Int) ≤ 2 := by omega
                clear hC
                go_wp2_with fail
                refine hc2.mono ?_
                rintro e w6 ⟨rfl, h6⟩
                have h6 := hid (And.intro HS2.out h6)
                clear hc2 HS2 d1
                go_wp2_with fail
                go_roundw
                case rel => first | exact ⟨j + 1, _, by go_num, by omega, by omega, h6⟩ | ((repeat apply Exists.intro); exact ⟨⟨j + 1, _, by go_num, by omega, by omega, h6⟩, rfl⟩)
                case measure => simp [RowKit.intOf] <;> omega
              · subst e2 e1
                clear hC
                go_wp2_with fail
                refine hc2.mono ?_
                rintro e w6 ⟨rfl, h6⟩
                have h6 := hid (And.intro HS2.out h6)
                clear hc2 HS2 d1
                go_wp2_with fail
                go_roundw
                case rel => first | exact ⟨j + 1, _, by go_num, by omega, by omega, h6⟩ | ((repeat apply Exists.intro); exact ⟨⟨j + 1, _, by go_num, by omega, by omega, h6⟩, rfl⟩)
                case measure => simp [RowKit.intOf] <;> omega
          · have hstop : (n2 : Int) ≤ (j : Int) ∨ ((j : Int) < (n2 : Int) ∧ (120 : Int) ≤ (j : Int)) := by omega
            clear hlt hj hjn
            have hv := tt_victim hU.out.2
            obtain ⟨g1, g2, g3, g4, g5⟩ := tells hU.out.1.ok
            have htt := hU.out.1.tot
            have HV2 : Hid (∀ w4, TT w1 P s.vic.2 (fun _ => False) w4 → Calls Try.prog 22 #[.pointer (some ⟨P, 0, none⟩)] w4 fun e w' => e = .returned (.int .i64 s.vic.1) ∧ TT w1 P s.vic.2 (fun _ => False) w') := hid (fun w4 h => by
              have := tt_victim h
              rw [g1, g2] at this
              exact this.mono fun e w' ⟨k1, k2, _⟩ => ⟨k1, k2⟩)
            rw [htt] at g4 g5 g3
            have hok2 := hU.out.1.ok.looked.ok
            clear hU
            rcases Nat.eq_zero_or_pos t with e0 | e0
            · subst e0
              have hV := g4 rfl
              rw [hV] at hv HV2
              clear g1 g2 g3 g4 g5 htt hV hok2
              rcases hstop with k0 | ⟨k0, k0'⟩
              all_goals
                go_wp2_with fail
                refine hv.mono ?_
                rintro e w4 ⟨rfl, h4, -⟩
                have hv2 := HV2.out _ h4
                clear hv h4 HV2
                go_wp2_with fail
                refine hv2.mono ?_
                rintro e w5 ⟨rfl, h5⟩
                have HB := hid (Below.then B1.out h5.below)
                clear hv2 h5
                go_wp2_with fail
                go_ret
                exact ⟨rfl, HB.out⟩
            · obtain ⟨g6, g7⟩ := g5 e0
              have hr := hok2.good.rng _ g6
              obtain ⟨r0, r1⟩ := hr
              have hcn : s.vic.2.count s.vic.1 = (s.vic.2.cnt s.vic.1 : Int) := by unfold Th.count; rw [show s.vic.2.has s.vic.1 = true from arow_some.2 g6]; rfl
              have HC2 : Hid (∀ w4, TT w1 P s.vic.2 (fun _ => False) w4 → Calls Try.prog 14 #[.pointer (some ⟨P, 0, none⟩), .int .i64 s.vic.1] w4 fun e w' => e = .returned (.int .i64 (s.vic.2.cnt s.vic.1 : Int)) ∧ TT w1 P s.vic.2 (fun _ => False) w') := hid (fun w4 h => by
                have := tt_count h s.vic.1 (by unfold i64ok; omega)
                rw [hcn] at this
                exact this.mono fun e w' ⟨k1, k2, _⟩ => ⟨k1, k2⟩)
              obtain ⟨K0, hK0⟩ : ∃ K, K = (rowAt s.vic.2.L 0).length := ⟨_, rfl⟩
              obtain ⟨K1, hK1⟩ : ∃ K, K = (rowAt s.vic.2.L 1).length := ⟨_, rfl⟩
              have HA0 : Hid (∀ w9, TT w1 P s.vic.2 (fun _ => False) w9 → Calls Try.prog 16 #[.pointer (some ⟨P, 0, none⟩), .int .i64 0] w9 fun e w' => ∃ v, e = .returned v ∧ w'.ownsRow w9.heap.size 3 1 v K0 (ic (rowAt s.vic.2.L 0)) ∧ TT w1 P s.vic.2 (fun _ => False) w' ∧ Below w9.heap.size w9 w') := hid (fun w9 h => by
                have := tt_all h 0
                rw [← hK0] at this
                exact this)
              have HA1 : Hid (∀ w9, TT w1 P s.vic.2 (fun _ => False) w9 → Calls Try.prog 16 #[.pointer (some ⟨P, 0, none⟩), .int .i64 1] w9 fun e w' => ∃ v, e = .returned v ∧ w'.ownsRow w9.heap.size 3 1 v K1 (ic (rowAt s.vic.2.L 1)) ∧ TT w1 P s.vic.2 (fun _ => False) w' ∧ Below w9.heap.size w9 w') := hid (fun w9 h => by
                have := tt_all h 1
                rw [← hK1] at this
                exact this)
              have hsum : (K0 : Int) + (K1 : Int) = (t : Int) := by
                have : K0 + K1 = t := by rw [hK0, hK1]; exact g3
                omega
              have t60' : (t : Int) ≤ 60 := by omega
              have tp : 0 < (t : Int) := by omega
              generalize s.vic.2.cnt s.vic.1 = C at *
              have C01 : C = 0 ∨ C = 1 := by omega
              clear g1 g2 g3 g4 g5 g6 g7 htt hok2 hcn hK0 hK1
              generalize s.vic.1 = V at *
              generalize s.vic.2 = s2 at *
              rcases hstop with k0 | ⟨k0, k0'⟩
              all_goals
                go_wp2_with fail
                refine hv.mono ?_
                rintro e w4 ⟨rfl, h4, -⟩
                have hv2 := HV2.out _ h4
                clear hv h4 HV2
                go_wp2_with fail
                refine hv2.mono ?_
                rintro e w5 ⟨rfl, h5⟩
                have hcc := HC2.out _ h5
                clear hv2 h5 HC2
                go_wp2_with fail
                refine hcc.mono ?_
                rintro e w6 ⟨rfl, h6⟩
                have ha0 := HA0.out _ h6
                clear hcc h6 HA0
                rcases C01 with rfl | rfl
                all_goals
                  go_wp2_with fail
                  refine ha0.mono ?_
                  rintro e w7 ⟨v, rfl, ho, h7, -⟩
                  obtain ⟨a7, c7, rfl⟩ := row_form ho
                  have ha1 := HA1.out _ h7
                  clear ha0 ho h7 HA1
                  go_wp2_with fail
                  refine ha1.mono ?_
                  rintro e w8 ⟨v, rfl, ho, h8, -⟩
                  obtain ⟨a8, c8, rfl⟩ := row_form ho
                  have HB := hid (Below.then B1.out h8.below)
                  clear ha1 ho h8
                  go_wp2_with fail
                  go_ret
                  exact ⟨rfl, HB.out⟩
end Go.Proofs.Ytkhmgigllcgpnaa.Th
