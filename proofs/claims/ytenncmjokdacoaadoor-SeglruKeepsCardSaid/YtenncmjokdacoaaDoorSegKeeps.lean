/-
  No step lets anybody in or out: the statement, walked. Conditions: the shares are 20 and 40 where the call begins.
-/
import Derived.Test.YtenncmjokdacoaaDoorSegKeepsMath
import Derived.Test.YtenncmjokdacoaaDoorSegFirst
import Derived.BigQuiet
namespace Go.Proofs.YtenncmjokdacoaaDoor.Sr
open Go Go.RowKit Go.Lib

/-- The row, and the array that says who came. -/
structure KS (w0 : World) (P X : Nat) (s : Sg) (w : World) : Prop where
  has : HA w0 P s (fun x => x = X) w
  blk : Blk w X 41 (inB s.L.flatten)
  sm : Small s
  hX : w0.heap.size ≤ X
theorem ks_touch {w0 w : World} {P X : Nat} {s : Sg} (h : KS w0 P X s w) {z : Int} (hz : i64ok z) : Calls Tryd.prog 13 #[.pointer (some ⟨P, 0, none⟩), .int .i64 z] w fun e w' => (∃ b, e = .returned (.bool b)) ∧ KS w0 P X (s.tch z) w' :=
  (ha_touch h.has z hz).mono fun _ _ ⟨h1, h2, _, d1, d2⟩ => ⟨⟨_, h1⟩, h2, by rw [tch_L]; exact h.blk.only d1 (d2 X rfl), h.sm.tch z, h.hX⟩
theorem ks_step {w0 w : World} {P X : Nat} {s : Sg} (h : KS w0 P X s w) : Calls Tryd.prog 17 #[.pointer (some ⟨P, 0, none⟩)] w fun e w' => (∃ b, e = .returned (.bool b)) ∧ KS w0 P X s.stp w' :=
  (ha_step h.has).mono fun _ _ ⟨h1, h2, _, d1, d2⟩ => ⟨⟨_, h1⟩, h2, by rw [inB_stp h.has.ok]; exact h.blk.only d1 (d2 X rfl), h.sm.stp h.has.ok, h.hX⟩
theorem ks_insert {w0 w : World} {P X : Nat} {s : Sg} (h : KS w0 P X s w) {q : Nat} (hq : q < 64) : Calls Tryd.prog 11 #[.pointer (some ⟨P, 0, none⟩), .int .i64 q] (w.setCell ⟨X, q, none⟩ (.bool true)) fun e w' => (∃ b, e = .returned (.bool b)) ∧ KS w0 P X (s.ins q) w' := by
  have ho : Only (fun x => x = X) w (w.setCell ⟨X, q, none⟩ (.bool true)) := Only.setCell (D := fun x => x = X) (Only.refl _ w) (p := ⟨X, q, none⟩) (.inl rfl) _
  have h1 : HA w0 P s (fun x => x = X) (w.setCell ⟨X, q, none⟩ (.bool true)) := h.has.turn ho (fun x hx => hx ▸ h.hX) (fun x hx => ⟨.inl hx, Nat.lt_of_lt_of_le (h.has.has.lt x hx) ho.size⟩)
  have hB := h.blk.set q (.bool true)
  rw [← inB_set (ys := (s.ins q).L.flatten) hq (fun z => ins_mem h.has.ok ⟨by omega, by omega⟩)] at hB
  exact (ha_insert h1 (q : Int) (small_i64 (by omega) (by omega))).mono fun _ _ ⟨e1, h2, _, d1, d2⟩ => ⟨⟨_, e1⟩, h2, hB.only d1 (d2 X rfl), h.sm.ins h.has.ok ⟨by omega, by omega⟩, h.hX⟩
/-- The row, the array that says who came, and the one that counts. -/
structure KT (w0 : World) (P X Y : Nat) (s : Sg) (xs : List Int) (w : World) : Prop where
  has : HA w0 P s (fun x => x = X ∨ x = Y) w
  blk : Blk w X 41 (inB s.L.flatten)
  tm : Blk w Y 42 (hc (cnts xs))
  sm : Small s
  hX : w0.heap.size ≤ X
  hY : w0.heap.size ≤ Y
  ne : X ≠ Y
theorem KT.after {w0 w w' : World} {P X Y : Nat} {s : Sg} {xs : List Int} (h : KT w0 P X Y s xs w) (hb : Below w.heap.size w w') : KT w0 P X Y s xs w' :=
  ⟨h.has.after hb, h.blk.below hb, h.tm.below hb, h.sm, h.hX, h.hY, h.ne⟩
theorem KT.store {w0 w : World} {P X Y : Nat} {s : Sg} {xs : List Int} (h : KT w0 P X Y s xs w) {m : Nat} (hm : m < 64) :
    KT w0 P X Y s (xs ++ [(m : Int)]) (w.setCell ⟨Y, m, none⟩ (.int .i64 ((xs.count (m : Int) + 1 : Nat) : Int))) := by
  have ho : Only (fun x => x = Y) w (w.setCell ⟨Y, m, none⟩ (.int .i64 ((xs.count (m : Int) + 1 : Nat) : Int))) := Only.setCell (D := fun x => x = Y) (Only.refl _ w) (p := ⟨Y, m, none⟩) (.inl rfl) _
  refine ⟨h.has.turn (ho.mono (fun x hx => .inr hx)) (fun x hx => hx.elim (fun e => e ▸ h.hX) (fun e => e ▸ h.hY)) (fun x hx => ⟨.inl hx, Nat.lt_of_lt_of_le (h.has.has.lt x hx) ho.size⟩), h.blk.only ho h.ne, ?_, h.sm, h.hX, h.hY, h.ne⟩
  rw [cnts_snoc hm, hc_set]
  exact h.tm.set m _

set_option maxRecDepth 100000 in
set_option maxHeartbeats 4000000 in
theorem keeps_law (a0 : Option Addr) (n0 c0 : Nat) (xs0 : List Int) (a1 : Option Addr) (n1 c1 : Nat) (xs1 : List Int) (st : Int) (w : World) (hv : Shr w) (hx0 : Nums w a0 n0 xs0) (hx1 : Nums w a1 n1 xs1) :
    Calls Tryd.prog 7 #[.slice a0 n0 c0, .slice a1 n1 c1, .int .i64 st] w fun e w' => e = .returned (.bool true) ∧ Below w.heap.size w w' := by
  have hsh := shown_any hv
  have HV := hid hv
  have HX0 := hid hx0
  have HX1 := hid hx1
  obtain ⟨m, hm, hm8⟩ : ∃ m : Nat, bits .and .i64 st 127 = (m : Int) ∧ m < 128 := ⟨(st % 128).toNat, by rw [i64_and127]; omega, by omega⟩
  obtain ⟨Z, hZ, hzv⟩ := in_made
  obtain ⟨Z2, hZ2, hzv2⟩ := times_made
  clear hv hx0 hx1
  go_enter Tryd.func7, Tryd.ntmps7
  go_wp2_with fail
  refine hsh.mono ?_
  rintro e w1 ⟨rfl, b1⟩
  have hnew := ha_new (HV.out.below b1)
  have B1 := hid b1
  clear hsh b1 HV
  go_wp2_with fail
  refine hnew.mono ?_
  rintro e w2 ⟨P, rfl, h2⟩
  have hB0 := Blk.new w2 Z 41
  rw [hZ] at hB0
  have HK0 : Hid (KS w1 P w2.heap.size Sg.new (w2.alloc (.cells Z 41))) := hid ⟨h2.more (alloc_below w2 _) (fun x hx => .inr (by rw [hx]; simp)), hB0, Small.new, h2.below.size⟩
  clear hnew h2 hB0 hZ
  go_wp2_with fail
  generalize w2.alloc (.cells Z 41) = w3 at *
  generalize w2.heap.size = X at *
  clear hzv
  go_loopw [10] (fun p wr => ∃ (i : Nat) (s : Sg), p = .int .i64 (i : Int) ∧ i ≤ 60 ∧ i ≤ n0 ∧ Hid (KS w1 P X s wr)) (fun p _ => 60 - (RowKit.intOf p).toNat)
  case atStart => exact ⟨0, _, rfl, Nat.zero_le _, Nat.zero_le _, HK0⟩
  case round =>
    obtain ⟨i, s, rfl, hi, hin, hT⟩ := hrel
    clear HK0
    by_cases hlt : i < n0 ∧ i < 60
    · obtain ⟨l1, l2⟩ := hlt
      obtain ⟨z, hz⟩ : ∃ z, xs0[i]? = some z := ⟨_, List.getElem?_eq_getElem (by rw [HX0.out.1]; exact l1)⟩
      obtain ⟨B, o, rfl, hbl, hbc⟩ := HX0.out.2 i z hz
      have hb2 := Below.then B1.out hT.out.has.below
      have d0 := (hb2.cell (p := ⟨B, o + i, none⟩) hbl).trans hbc
      obtain ⟨q, hq, hq6⟩ : ∃ q : Nat, bits .and .i64 z 63 = (q : Int) ∧ q < 64 := ⟨(z % 64).toNat, by rw [i64_and63]; omega, by omega⟩
      have hct := hT.out.blk.cell (inB_at hq6)
      have hfz := hT.out.blk.frozen q
      have hxl : X < wr.heap.size := hT.out.blk.lt
      have hne : ¬ X = B := by have := B1.out.size; have := hT.out.hX; omega
      have hins := ks_insert hT.out hq6
      have q0 : 0 ≤ (q : Int) := by omega
      have q6 : (q : Int) < 64 := by omega
      have i1 : (i : Int) < (n0 : Int) := by omega
      have i2 : (i : Int) < 60 := by omega
      have d2 := (World.cell?_setCell_other wr ⟨X, q, none⟩ ⟨B, o + i, none⟩ (.bool true) (fun e => hne (congrArg Addr.block e))).trans d0
      generalize decide ((q : Int) ∈ s.L.flatten) = A at *
      clear hT hz hbc hb2 hm
      go_wp2_with fail
      refine hins.mono ?_
      rintro e w4 ⟨⟨b, rfl⟩, h4⟩
      have H4 := hid h4
      clear hins d2 d0 hct hfz hq
      generalize s.ins (q : Int) = s4 at *
      by_cases ht : i < n1
      · obtain ⟨z1, hz1⟩ : ∃ z, xs1[i]? = some z := ⟨_, List.getElem?_eq_getElem (by rw [HX1.out.1]; exact ht)⟩
        obtain ⟨B1', o1, rfl, hbl1, hbc1⟩ := HX1.out.2 i z1 hz1
        have hb4 := Below.then B1.out h4.has.below
        have d1 := (hb4.cell (p := ⟨B1', o1 + i, none⟩) hbl1).trans hbc1
        obtain ⟨q1, hq1, hq16⟩ : ∃ q : Nat, bits .and .i64 z1 63 = (q : Int) ∧ q < 64 := ⟨(z1 % 64).toNat, by rw [i64_and63]; omega, by omega⟩
        have hto := ks_touch H4.out (z := (q1 : Int)) (small_i64 (by omega) (by omega))
        have i3 : (i : Int) < (n1 : Int) := by omega
        clear h4 H4 hz1 hbc1 hb4
        go_wp2_with fail
        refine hto.mono ?_
        rintro e w5 ⟨⟨b5, rfl⟩, h5⟩
        have H5 := hid h5
        clear hto d1 hq1 h5
        go_wp2_with fail
        go_roundw
        case rel => exact ⟨i + 1, _, by go_num, by omega, by omega, H5⟩
        case measure => simp [RowKit.intOf] <;> omega
      · have i3 : (n1 : Int) ≤ (i : Int) := by omega
        clear h4
        go_wp2_with fail
        go_roundw
        case rel => exact ⟨i + 1, _, by go_num, by omega, by omega, H4⟩
        case measure => simp [RowKit.intOf] <;> omega
    · have hstop : (n0 : Int) ≤ (i : Int) ∨ ((i : Int) < (n0 : Int) ∧ (60 : Int) ≤ (i : Int)) := by omega
      clear hlt
      rcases hstop with h0 | ⟨h0, h0'⟩
      all_goals
        go_wp2_with fail
        go_loopw [11] (fun p wr => ∃ (j : Nat) (s : Sg), p = .int .i64 (j : Int) ∧ j ≤ m ∧ Hid (KS w1 P X s wr)) (fun p _ => m - (RowKit.intOf p).toNat)
        case atStart => exact ⟨0, s, rfl, Nat.zero_le _, hT⟩
        case round =>
          clear hT
          obtain ⟨j, s, rfl, hj, hT⟩ := hrel
          by_cases hlt : j < m
          · have hs := ks_step hT.out
            have j1 : (j : Int) < (m : Int) := by omega
            clear hT
            go_wp2_with fail
            refine hs.mono ?_
            rintro e w4 ⟨⟨b, rfl⟩, h4⟩
            have H4 := hid h4
            clear hs h4
            go_wp2_with fail
            go_roundw
            case rel => exact ⟨j + 1, _, by go_num, by omega, H4⟩
            case measure => simp [RowKit.intOf] <;> omega
          · obtain rfl : j = m := by omega
            have hYB := Blk.new wr Z2 42
            rw [hZ2] at hYB
            have HY : Hid (KT w1 P X wr.heap.size s [] (wr.alloc (.cells Z2 42))) := hid
              ⟨hT.out.has.more (alloc_below wr _) (fun x hx => hx.elim .inl (fun e => .inr (by rw [e]; simp))), hT.out.blk.alloc _, hYB, hT.out.sm, hT.out.hX, hT.out.has.below.size, by have := hT.out.blk.lt; omega⟩
            have HOk := hid hT.out.has.ok
            clear hYB hT hlt hj
            go_wp2_with fail
            generalize wr.alloc (.cells Z2 42) = w5 at *
            generalize wr.heap.size = Y at *
            clear hzv2 hm
            go_loopw [13] (fun p wr => ∃ k : Nat, p = .int .i64 k ∧ k ≤ 3 ∧ Hid (KT w1 P X Y s (s.L.take k).flatten wr)) (fun p _ => 3 - (RowKit.intOf p).toNat)
            case atStart => exact ⟨0, rfl, Nat.zero_le _, HY⟩
            case round =>
              clear HY
              obtain ⟨k, rfl, hk, hU⟩ := hrel
              have hg := hid HOk.out.good
              by_cases hlt : k < 3
              · obtain ⟨rw0, hrw⟩ : ∃ l, s.L[k]? = some l := ⟨_, List.getElem?_eq_getElem (by rw [HOk.out.three]; exact hlt)⟩
                have hall := ha_all hU.out.has (k : Int)
                rw [rowAt_nat hrw] at hall
                have hKb : rw0.length ≤ 4194304 := hg.out.len hrw
                have hAb : Hid ((s.L.take k).flatten.length ≤ 4194304) := hid (Nat.le_trans (take_flat_le s.L k) hg.out.count)
                have hAs : Hid ((s.L.take (k + 1)).flatten = (s.L.take k).flatten ++ rw0) := hid (by rw [take_snoc hrw]; simp)
                have hXl := hU.out.blk.lt
                have hYl := hU.out.tm.lt
                obtain ⟨K, hK⟩ : ∃ K, K = rw0.length := ⟨_, rfl⟩
                rw [← hK] at hall hKb
                have HK := hid hK
                have HRW := hid hrw
                have k3 : (k : Int) < 3 := by omega
                clear hrw hK
                go_wp2_with fail
                refine hall.mono ?_
                rintro e w6 ⟨v6, rfl, o6, b6⟩
                have H6 : Hid (KT w1 P X Y s ((s.L.take k).flatten ++ rw0.take 0) w6) := hid (by rw [List.take_zero, List.append_nil]; exact hU.out.after b6)
                obtain ⟨a6, c6, rfl⟩ := row_form o6
                have HO6 : Hid (∃ base, X < base ∧ Y < base ∧ w6.ownsRow base 3 1 (.slice a6 K c6) K (ic rw0)) := hid ⟨_, hXl, hYl, o6⟩
                clear hall o6 b6 hU hXl hYl
                go_wp2_with fail
                go_loopw [15] (fun p wr => ∃ t : Nat, p = .int .i64 t ∧ t ≤ K ∧ Hid (∃ base, X < base ∧ Y < base ∧ wr.ownsRow base 3 1 (.slice a6 K c6) K (ic rw0)) ∧ Hid (KT w1 P X Y s ((s.L.take k).flatten ++ rw0.take t) wr)) (fun p _ => K - (RowKit.intOf p).toNat)
                case atStart => exact ⟨0, rfl, Nat.zero_le _, HO6, H6⟩
                case round =>
                  obtain ⟨t, rfl, ht, hOr, hTr⟩ := hrel
                  clear HO6 H6
                  by_cases hlt2 : t < K
                  · obtain ⟨z, hz⟩ : ∃ z, rw0[t]? = some z := ⟨_, List.getElem?_eq_getElem (by rw [← HK.out]; exact hlt2)⟩
                    obtain ⟨base, hbX, hbY, ho⟩ := hOr.out
                    obtain ⟨g, cap, hv, hcap, hgb, hgl⟩ := row_pos ho (by omega)
                    cases hv
                    have hcz := cel_of ho t z hz
                    have hzm := mem_flat HRW.out (List.mem_of_getElem? hz)
                    have hzr := hg.out.rng z hzm
                    have hzs := hTr.out.sm z hzm
                    obtain ⟨q, rfl⟩ : ∃ q : Nat, z = q := ⟨z.toNat, by omega⟩
                    have hq6 : q < 64 := by omega
                    obtain ⟨C, hC⟩ : ∃ C, C = ((s.L.take k).flatten ++ rw0.take t).count (q : Int) := ⟨_, rfl⟩
                    have hCb : (C : Int) + 1 ≤ 8388609 := by
                      have := List.count_le_length (a := (q : Int)) (l := (s.L.take k).flatten ++ rw0.take t)
                      rw [List.length_append, List.length_take] at this
                      have := hAb.out
                      omega
                    have hct := hTr.out.tm.cell (hc_at (cnts_at (xs := (s.L.take k).flatten ++ rw0.take t) hq6))
                    rw [← hC] at hct
                    have hfz := hTr.out.tm.frozen q
                    have hst := hTr.out.store hq6
                    rw [← hC, List.append_assoc, ← take_snoc hz] at hst
                    have HS2 : Hid (KT w1 P X Y s ((s.L.take k).flatten ++ rw0.take (t + 1)) (wr.setCell ⟨Y, q, none⟩ (.int .i64 ((C : Int) + 1)))) := hid hst
                    have ho6 : Only (fun x => x = Y) wr (wr.setCell ⟨Y, q, none⟩ (.int .i64 ((C : Int) + 1))) := Only.setCell (D := fun x => x = Y) (Only.refl _ wr) (p := ⟨Y, q, none⟩) (.inl rfl) _
                    have HO6 : Hid (∃ base, X < base ∧ Y < base ∧ (wr.setCell ⟨Y, q, none⟩ (.int .i64 ((C : Int) + 1))).ownsRow base 3 1 (.slice (some ⟨g, 0, none⟩) K c6) K (ic rw0)) := hid ⟨base, hbX, hbY, own_only ho ho6 (fun b hb => by
                      obtain rfl : g = b := by simpa [Value.ownBlock] using hb
                      exact fun e => by omega)⟩
                    have q6 : (q : Int) < 64 := by omega
                    have q7 : decide ((63 : Int) < (q : Int)) = false := decide_eq_false (by omega)
                    have q8 : decide ((q : Int) < 0) = false := decide_eq_false (by omega)
                    have t1 : (t : Int) < (K : Int) := by omega
                    have hne : ¬ Y = g := by omega
                    have t2 : (t : Int) + 1 ≤ 4194304 := by omega
                    clear hOr hTr hz hzm hC ho ho6 hzr hzs hbX hbY hgb hgl hst hcap hKb ht hk
                    go_wp2_with fail
                    go_roundw
                    case rel => exact ⟨t + 1, by go_num, by omega, HO6, HS2⟩
                    case measure => simp [RowKit.intOf] <;> omega
                  · obtain rfl : t = K := by omega
                    have HU7 : Hid (KT w1 P X Y s (s.L.take (k + 1)).flatten wr) := hid (by
                      have := hTr.out
                      rw [HK.out, List.take_length, ← hAs.out] at this; exact this)
                    clear hTr hOr
                    go_wp2_with fail
                    go_roundw
                    case rel => exact ⟨k + 1, by go_num, by omega, HU7⟩
                    case measure => simp [RowKit.intOf] <;> omega
              · obtain rfl : k = 3 := by omega
                have HU7 : Hid (KT w1 P X Y s s.L.flatten wr) := hid (by
                  have := hU.out
                  rw [← HOk.out.three, List.take_length] at this; exact this)
                clear hU hlt hk
                go_wp2_with fail
                go_loopw [16] (fun p wr => ∃ d : Nat, p = .int .i64 d ∧ d ≤ 64 ∧ Hid (KT w1 P X Y s s.L.flatten wr)) (fun p _ => 64 - (RowKit.intOf p).toNat)
                case atStart => exact ⟨0, rfl, Nat.zero_le _, HU7⟩
                case round =>
                  clear HU7
                  obtain ⟨d, rfl, hd, hTr⟩ := hrel
                  by_cases hlt3 : d < 64
                  · have hct := hTr.out.tm.cell (hc_at (cnts_at (xs := s.L.flatten) hlt3))
                    have hci := hTr.out.blk.cell (inB_at (xs := s.L.flatten) hlt3)
                    have i1 : 0 ≤ (d : Int) := by omega
                    have i2 : (d : Int) < 64 := by omega
                    have hq := hid (fun m => hTr.out.after (drewn_below (Below.refl _ _) m))
                    rcases cnt_in hg.out.nd (d : Int) with ⟨e1, e2⟩ | ⟨e1, e2⟩
                    · rw [e1] at hct
                      rw [e2] at hci
                      replace hct : wr.cell? ⟨Y, d, none⟩ = some (.int .i64 1) := hct
                      clear e1 e2 hTr
                      go_wp2_with fail
                      go_quiet (fail)
                      go_wp2_with fail
                      go_roundw
                      case rel => exact ⟨d + 1, by go_num, by omega, hid (hq.out _)⟩
                      case measure => simp [RowKit.intOf] <;> omega
                    · rw [e1] at hct
                      rw [e2] at hci
                      replace hct : wr.cell? ⟨Y, d, none⟩ = some (.int .i64 0) := hct
                      clear e1 e2 hTr
                      go_wp2_with fail
                      go_quiet (fail)
                      go_wp2_with fail
                      go_roundw
                      case rel => exact ⟨d + 1, by go_num, by omega, hid (hq.out _)⟩
                      case measure => simp [RowKit.intOf] <;> omega
                  · obtain rfl : d = 64 := by omega
                    have HB := hid (Below.then B1.out hTr.out.has.below)
                    clear hTr
                    go_wp2_with fail
                    go_ret
                    exact ⟨rfl, HB.out⟩
end Go.Proofs.YtenncmjokdacoaaDoor.Sr
