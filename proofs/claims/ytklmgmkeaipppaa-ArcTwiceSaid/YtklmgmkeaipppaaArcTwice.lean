/-
  Who was asked for twice stands in again, in the order of asking: the statement, walked. No conditions but those of the calls.
-/
import Derived.Test.YtklmgmkeaipppaaM9
import Derived.BigQuiet
import Derived.Deep.CutBlock
namespace Go.Proofs.Ytklmgmkeaipppaa.Ac
open Go Go.RowKit Go.Lib

theorem infoLast : (Try.prog.info? 51).map (fun i => (i.zero, i.size)) = some (some (.agg (Array.replicate 32 (.int .i64 0))), 32) := by kernel_rfl
def lc (last : Nat → Nat) : List Value := (List.range 32).map fun j => Value.int .i64 (last j : Int)
theorem lc_at {last : Nat → Nat} {j : Nat} (h : j < 32) : (lc last)[j]? = some (.int .i64 (last j : Int)) := by unfold lc; rw [List.getElem?_map, List.getElem?_range h]; rfl
theorem last_made : ∃ Z : Array Value, Z.toList = lc (fun _ => 0) ∧ ∀ W : World, (zeroValue 51).run Try.prog W = .ok (.agg Z) W := by
  refine ⟨Array.replicate 32 (.int .i64 0), by rw [Array.toList_replicate]; rfl, fun W => ?_⟩
  obtain ⟨i0, hi, hx⟩ := Option.map_eq_some_iff.1 infoLast
  simp only [Prod.mk.injEq] at hx
  generalize Array.replicate 32 (Value.int .i64 0) = Z at *
  simp [zeroValue, typeInfo, hi, hx.1]
theorem lc_set (last : Nat → Nat) (k x : Nat) : lc (updL last k x) = (lc last).set k (.int .i64 (x : Int)) := by
  apply List.ext_getElem?
  intro j
  rw [List.getElem?_set]
  have hl : (lc last).length = 32 := by simp [lc]
  by_cases hj : j < 32
  · rw [lc_at hj]
    unfold updL
    by_cases e : k = j
    · subst e; rw [if_pos rfl, if_pos rfl, if_pos (by rw [hl]; exact hj)]
    · rw [if_neg (fun e2 => e e2.symm), if_neg e, lc_at hj]
  · rw [List.getElem?_eq_none (by simp [lc]; omega)]
    by_cases e : k = j
    · rw [if_pos e, if_neg (by rw [hl]; omega)]
    · rw [if_neg e, List.getElem?_eq_none (by omega)]
theorem tch_no {s : Ar} {z : Int} (h : s.has z = false) : s.tch z = s := by unfold Ar.tch; rw [h]; rfl
/-- The policy and the array beside it. -/
structure TA (w0 : World) (P X m i : Nat) (last : Nat → Nat) (s : Ar) (w : World) : Prop where
  tw : Tw m i last s
  has : AA w0 P s (fun x => x = X) w
  blk : Blk w X 51 (lc last)
  hX : w0.heap.size ≤ X
theorem ta_touch {w0 w : World} {P X m i : Nat} {last : Nat → Nat} {s : Ar} (h : TA w0 P X m i last s w) {q : Nat} (hq : q < m) : Calls Try.prog 20 #[.pointer (some ⟨P, 0, none⟩), .int .i64 (q : Int)] w fun e w' => e = .returned (.bool true) ∧ w'.frozen? ⟨X, q, none⟩ = false ∧ w'.cell? ⟨X, q, none⟩ = w.cell? ⟨X, q, none⟩ ∧ TA w0 P X m (i + 1) (updL last q (i + 1)) (s.tch q) (w'.setCell ⟨X, q, none⟩ (.int .i64 ((i : Int) + 1))) := by
  obtain ⟨e1, e2⟩ := h.tw.tch hq
  have ht := aa_touch h.has (q : Int) (by have := h.tw.ok.good.rng (q : Int) ((h.tw.mem _).2 ⟨by omega, by omega⟩); unfold i64ok; omega)
  rw [e1] at ht
  refine ht.mono ?_
  rintro e w' ⟨he, k1, D, d1, d2⟩
  have hB := h.blk.only d1 (d2 X rfl)
  have ho : Only (fun x => x = X) w' (w'.setCell ⟨X, q, none⟩ (.int .i64 ((i : Int) + 1))) := Only.setCell (D := fun x => x = X) (Only.refl _ w') (p := ⟨X, q, none⟩) (.inl rfl) _
  refine ⟨he, hB.frozen q, d1.cell (p := ⟨X, q, none⟩) h.blk.lt (d2 X rfl), ⟨e2, HasO.turn k1 ho (fun x hx => hx ▸ h.hX) (fun x hx => ⟨.inl hx, Nat.lt_of_lt_of_le (k1.lt x hx) ho.size⟩), ?_, h.hX⟩⟩
  have := hB.set q (.int .i64 ((i + 1 : Nat) : Int))
  rw [← lc_set] at this
  exact this
theorem ta_not {w0 w : World} {P X m i : Nat} {last : Nat → Nat} {s : Ar} (h : TA w0 P X m i last s w) {q : Nat} (hq : ¬ q < m) (h32 : q < 32) : Calls Try.prog 20 #[.pointer (some ⟨P, 0, none⟩), .int .i64 (q : Int)] w fun e w' => e = .returned (.bool false) ∧ TA w0 P X m (i + 1) last s w' := by
  have hh : s.has q = false := by
    cases e : s.has q
    · rfl
    · have := (h.tw.mem _).1 (arow_some.1 e); omega
  have ht := aa_touch h.has (q : Int) (small_i64 (by omega) (by omega))
  rw [hh, tch_no hh] at ht
  exact ht.mono fun e w' ⟨he, k1, D, d1, d2⟩ => ⟨he, ⟨h.tw.skip, k1, h.blk.only d1 (d2 X rfl), h.hX⟩⟩

theorem pair_at {α : Type} {R : α → α → Prop} {l : List α} (h : l.Pairwise R) {u : Nat} {x y : α} (hx : l[u]? = some x) (hy : l[u + 1]? = some y) : R x y := by
  obtain ⟨h1, h2⟩ := List.getElem?_eq_some_iff.1 hx
  obtain ⟨h3, h4⟩ := List.getElem?_eq_some_iff.1 hy
  have := List.pairwise_iff_getElem.1 h u (u + 1) h1 h3 (Nat.lt_succ_self u)
  rwa [h2, h4] at this
theorem in_row {n i : Nat} {last : Nat → Nat} {s : Ar} (h : Tw n i last s) {r : Int} {l : List Int} (hl : l = rowAt s.L r) {t : Nat} (ht : t < l.length) : ∃ q : Nat, l[t]? = some (q : Int) ∧ (q : Int) ∈ l ∧ q < n := by
  obtain ⟨z, hz⟩ : ∃ z, l[t]? = some z := ⟨_, List.getElem?_eq_getElem ht⟩
  have hm := List.mem_of_getElem? hz
  have hf : z ∈ s.L.flatten := by
    rw [hl] at hm
    unfold rowAt at hm
    by_cases h0 : 0 ≤ r
    · rw [if_pos h0] at hm
      cases e : s.L[r.toNat]? with
      | none => rw [e] at hm; simp at hm
      | some l' => rw [e] at hm; exact List.mem_flatten.2 ⟨l', List.mem_of_getElem? e, hm⟩
    · rw [if_neg h0] at hm; simp at hm
  have := (h.mem z).1 hf
  obtain ⟨q, rfl⟩ : ∃ q : Nat, z = q := ⟨z.toNat, by omega⟩
  exact ⟨q, hz, hm, by omega⟩
set_option maxRecDepth 100000 in
set_option maxHeartbeats 4000000 in
theorem twice_law (n : Int) (a1 : Option Addr) (n1 c1 : Nat) (xs1 : List Int) (w : World) (hx1 : Nums w a1 n1 xs1) :
    Calls Try.prog 7 #[.int .i64 n, .slice a1 n1 c1] w fun e w' => e = .returned (.bool true) ∧ Below w.heap.size w w' := by
  have hsh := shown_any w
  have HX1 := hid hx1
  obtain ⟨m, hm, hm32⟩ : ∃ m : Nat, bits .and .i64 n 31 = (m : Int) ∧ m < 32 := ⟨(n % 32).toNat, by rw [i64_and31]; omega, by omega⟩
  obtain ⟨Z, hZ, hzv⟩ := last_made
  clear hx1
  go_enter Try.func7, Try.ntmps7
  go_wp2_with fail
  refine hsh.mono ?_
  rintro e w1 ⟨rfl, b1⟩
  have hnew := aa_new w1
  have B1 := hid b1
  clear hsh b1
  go_wp2_with fail
  refine hnew.mono ?_
  rintro e w2 ⟨P, rfl, h2⟩
  have hc := aa_cap h2 40 (small_i64 (by omega) (by omega))
  clear hnew h2
  go_wp2_with fail
  clear hm
  refine hc.mono ?_
  rintro e w3 ⟨rfl, h4, -⟩
  have h4 := hid (And.intro (Fl.new 40 (by decide)) h4)
  clear hc
  go_wp2_with fail
  go_loopw [7] (fun p wr => ∃ (i : Nat) (s : Ar), p = .int .i64 (i : Int) ∧ i ≤ m ∧ Hid (Fl 40 i s ∧ AA w1 P s (fun _ => False) wr)) (fun p _ => m - (RowKit.intOf p).toNat)
  case atStart => exact ⟨0, _, rfl, Nat.zero_le _, h4⟩
  case round =>
    obtain ⟨i, s, rfl, hi, hT⟩ := hrel
    clear h4
    by_cases hlt : i < m
    · have hin := aa_insert hT.out.2 (i : Int) (i : Int) (small_i64 (by omega) (by omega)) (small_u64 (by omega) (by omega)) (by rw [hT.out.1.p]; decide)
      obtain ⟨e1, e2⟩ := hT.out.1.ins (by omega)
      rw [e1] at hin
      have hF := hid e2
      have i1 : (i : Int) < (m : Int) := by omega
      have i2 : (i : Int) < 32 := by omega
      have i3 : IntKind.u64.wrap (i : Int) = (i : Int) := by rw [IntKind.wrap_u64]; omega
      clear hT e1 e2
      go_wp2_with fail
      refine hin.mono ?_
      rintro e w4 ⟨rfl, h5, -⟩
      have h5 := hid (And.intro hF.out h5)
      clear hin hF
      go_wp2_with fail
      go_roundw
      case rel => exact ⟨i + 1, _, by go_num, by omega, h5⟩
      case measure => simp [RowKit.intOf] <;> omega
    · obtain rfl : i = m := by omega
      have hB0 := Blk.new wr Z 51
      rw [hZ] at hB0
      have HT : Hid (TA w1 P wr.heap.size i 0 (fun _ => 0) s (wr.alloc (.cells Z 51))) := hid ⟨hT.out.1.tw, HasO.more hT.out.2 (alloc_below wr _) (fun x hx => .inr (by rw [hx]; simp)), hB0, hT.out.2.below.size⟩
      clear hT hB0 hZ hlt hi
      go_wp2_with fail
      generalize wr.alloc (.cells Z 51) = w4 at *
      generalize wr.heap.size = X at *
      clear hzv
      go_loopw [9] (fun p wr => ∃ (j : Nat) (last : Nat → Nat) (s : Ar), p = .int .i64 (j : Int) ∧ j ≤ 60 ∧ j ≤ n1 ∧ Hid (TA w1 P X i j last s wr)) (fun p _ => 60 - (RowKit.intOf p).toNat)
      case atStart => exact ⟨0, _, s, rfl, Nat.zero_le _, Nat.zero_le _, HT⟩
      case round =>
        clear HT
        obtain ⟨j, last, s, rfl, hj, hjn, hT⟩ := hrel
        by_cases hlt : j < n1 ∧ j < 60
        · obtain ⟨l1, l2⟩ := hlt
          obtain ⟨z1, hz1⟩ : ∃ z, xs1[j]? = some z := ⟨_, List.getElem?_eq_getElem (by rw [HX1.out.1]; exact l1)⟩
          obtain ⟨B1', o1, rfl, hbl1, hbc1⟩ := HX1.out.2 j z1 hz1
          have hb4 := Below.then B1.out hT.out.has.below
          have d1 := (hb4.cell (p := ⟨B1', o1 + j, none⟩) hbl1).trans hbc1
          obtain ⟨q, hq, hq32⟩ : ∃ q : Nat, bits .and .i64 z1 31 = (q : Int) ∧ q < 32 := ⟨(z1 % 32).toNat, by rw [i64_and31]; omega, by omega⟩
          have i1 : (j : Int) < (n1 : Int) := by omega
          have i2 : (j : Int) < 60 := by omega
          by_cases hqm : q < i
          · have hto := ta_touch hT.out hqm
            have hct := hT.out.blk.cell (lc_at (last := last) hq32)
            have q0 : 0 ≤ (q : Int) := by omega
            have q1 : (q : Int) < 32 := by omega
            have q2 : (q : Int) < (i : Int) := by omega
            rw [hct] at hto
            clear hz1 hbc1 hb4 hT hct
            go_wp2_with fail
            refine hto.mono ?_
            rintro e w5 ⟨rfl, hf5, hc5, h5⟩
            have h5 := hid h5
            clear hto d1 hq
            go_wp2_with fail
            go_roundw
            case rel => exact ⟨j + 1, _, _, by go_num, by omega, by omega, h5⟩
            case measure => simp [RowKit.intOf] <;> omega
          · have hto := ta_not hT.out hqm hq32
            have q2 : (i : Int) ≤ (q : Int) := by omega
            clear hz1 hbc1 hb4 hT
            go_wp2_with fail
            refine hto.mono ?_
            rintro e w5 ⟨rfl, h5⟩
            have h5 := hid h5
            clear hto d1 hq
            go_wp2_with fail
            go_roundw
            case rel => exact ⟨j + 1, _, _, by go_num, by omega, by omega, h5⟩
            case measure => simp [RowKit.intOf] <;> omega
        · have hstop : (n1 : Int) ≤ (j : Int) ∨ ((j : Int) < (n1 : Int) ∧ (60 : Int) ≤ (j : Int)) := by omega
          clear hlt
          go_upto_region 13 with fail
          go_cut [44] from 37 to 43 (fun v wx => v = .bool false ∧ wx = wr)
          case first =>
            rcases hstop with h0 | ⟨h0, h0'⟩
            all_goals
              go_wp2_with fail
              go_meet
              exact ⟨by first | rfl | (rw [decide_eq_false (by omega)]), rfl⟩
          case rest =>
          obtain ⟨rfl, rfl⟩ := hcut
          clear hstop hjn
          have ha := aa_all hT.out.has 1
          have hTT := hT.out.tw.tot
          have hG := hid (show Tw i j last s from hT.out.tw)
          have hBk := hid hT.out.blk
          have hY := hid hT.out.hX
          obtain ⟨g1, hg1⟩ : ∃ l, l = rowAt s.L 1 := ⟨_, rfl⟩
          obtain ⟨g0, hg0⟩ : ∃ l, l = rowAt s.L 0 := ⟨_, rfl⟩
          obtain ⟨K1, hK1⟩ : ∃ K, K = g1.length := ⟨_, rfl⟩
          obtain ⟨K0, hK0⟩ : ∃ K, K = g0.length := ⟨_, rfl⟩
          have hs : (K1 : Int) + (K0 : Int) = (i : Int) := by
            have : K0 + K1 = i := by rw [hK0, hK1, hg0, hg1]; exact hTT
            omega
          have hsb : (K1 : Int) + (K0 : Int) ≤ 31 := by omega
          rw [← hg1, ← hK1] at ha
          have HG1 := hid hg1
          have HG0 := hid hg0
          have HK1 := hid hK1
          have HK0 := hid hK0
          have k1b : (K1 : Int) ≤ 31 := by omega
          have k0b : (K0 : Int) ≤ 31 := by omega
          clear hTT hg1 hg0 hK1 hK0
          go_wp2_with fail
          refine ha.mono ?_
          rintro e w5 ⟨v5, rfl, o5, h5, b5⟩
          have hb := aa_all h5 0
          rw [← HG0.out, ← HK0.out] at hb
          obtain ⟨a5, c5, rfl⟩ := row_form o5
          have hBk5 := hid (hBk.out.below b5)
          have O5 := hid (Gh.own_zero o5)
          clear ha hT o5 h5 b5 hBk
          go_wp2_with fail
          refine hb.mono ?_
          rintro e w6 ⟨v6, rfl, o6, h6, b6⟩
          obtain ⟨a6, c6, rfl⟩ := row_form o6
          have hBk6 := hid (hBk5.out.below b6)
          have O6 := hid (Gh.own_zero o6)
          have O5' := hid (own_only O5.out (Below.only (D := fun _ => False) b6) (fun _ _ => id))
          have HB := hid (Below.then B1.out h6.below)
          clear hb o6 h6 b6 hBk5 O5
          go_wp2_with fail
          clear hs hsb
          go_loopw [13] (fun p wr => ∃ t : Nat, p = .int .i64 (t : Int) ∧ t ≤ K1 ∧ Hid (Below w6.heap.size w6 wr)) (fun p _ => K1 - (RowKit.intOf p).toNat)
          case atStart => exact ⟨0, rfl, Nat.zero_le _, hid (Below.refl _ _)⟩
          case round =>
            obtain ⟨t, rfl, ht, hW⟩ := hrel
            by_cases hlt : t < K1
            · have hr := in_row hG.out (r := 1) (l := g1) HG1.out (t := t) (by rw [← HK1.out]; exact hlt)
              obtain ⟨q, hz, hmem, hq32⟩ := hr
              have hq32 : q < 32 := by omega
              obtain ⟨g, cap, hv, hcap, hgb, hgl⟩ := row_pos O5'.out (by omega)
              cases hv
              have hcz := (hW.out.cell (p := ⟨g, t, none⟩) hgl).trans (cel_of O5'.out t (q : Int) hz)
              have hXl := hBk6.out.lt
              have hcC := (hW.out.cell (p := ⟨X, q, none⟩) hXl).trans (hBk6.out.cell (lc_at (last := last) hq32))
              have hC0 : last q ≠ 0 := by have := hG.out.again (q : Int) (by rw [← HG1.out]; exact hmem); simp only [Int.toNat_natCast] at this; exact this
              have hCle : last q ≤ 60 := by have := hG.out.le q; omega
              have t0 : (0 : Int) ≤ (t : Int) := by omega
              have t1 : (t : Int) < (K1 : Int) := by omega
              have t2 : (t : Int) + 1 ≤ 32 := by omega
              have q0 : (0 : Int) ≤ (q : Int) := by omega
              have q1 : (q : Int) < 32 := by omega
              have q2 : decide ((31 : Int) < (q : Int)) = false := decide_eq_false (by omega)
              have q3 : decide ((q : Int) < 0) = false := decide_eq_false (by omega)
              have q4 : decide (31 < q) = false := decide_eq_false (by omega)
              have c0 : ((last q : Int) == 0) = false := beq_eq_false_iff_ne.2 (by omega)
              have c0' : (last q == 0) = false := beq_eq_false_iff_ne.2 hC0
              rcases Nat.eq_zero_or_pos t with h0 | hpos
              · subst h0
                generalize last q = C at *
                clear hz hmem hcap hgb hgl hXl hC0
                go_wp2_with fail
                go_quiet (fail)
                go_wp2_with fail
                go_roundw
                case rel => exact ⟨1, rfl, by omega, hid (drewn_below hW.out _)⟩
                case measure => simp [RowKit.intOf] <;> omega
              · obtain ⟨u, hu⟩ : ∃ u, t = u + 1 := ⟨t - 1, by omega⟩
                obtain ⟨q', hz', hmem', hq32'⟩ := in_row hG.out (r := 1) (l := g1) HG1.out (t := u) (by rw [← HK1.out]; omega)
                have hq32' : q' < 32 := by omega
                have hcz' := (hW.out.cell (p := ⟨g, u, none⟩) hgl).trans (cel_of O5'.out u (q' : Int) hz')
                have hcC' := (hW.out.cell (p := ⟨X, q', none⟩) hXl).trans (hBk6.out.cell (lc_at (last := last) hq32'))
                have hlq : last q < last q' := by
                  have hp := hG.out.againP
                  rw [← HG1.out] at hp
                  have := pair_at hp hz' (by rw [← hu]; exact hz)
                  simpa using this
                have u0 : (0 : Int) ≤ (u : Int) := by omega
                have u1 : (u : Int) < (K1 : Int) := by omega
                have u2 : (t : Int) - 1 = (u : Int) := by omega
                have u3 : IntKind.i64.wrap (u : Int) = (u : Int) := by rw [IntKind.wrap_i64]; omega
                have u4 : decide ((0 : Int) < (t : Int)) = true := decide_eq_true (by omega)
                have u5 : decide (0 < t) = true := decide_eq_true hpos
                have v0 : (0 : Int) ≤ (q' : Int) := by omega
                have v1 : (q' : Int) < 32 := by omega
                have l0 : decide ((last q' : Int) ≤ (last q : Int)) = false := decide_eq_false (by omega)
                have l1 : decide (last q' ≤ last q) = false := decide_eq_false (by omega)
                have u6 : u < K1 := by omega
                generalize last q = C at *
                generalize last q' = C' at *
                clear hz hmem hcap hgb hgl hXl hC0 hz' hmem' hlq hu
                go_wp2_with fail
                go_quiet (fail)
                go_wp2_with fail
                go_roundw
                case rel => exact ⟨t + 1, by go_num, by omega, hid (drewn_below hW.out _)⟩
                case measure => simp [RowKit.intOf] <;> omega
            · obtain rfl : t = K1 := by omega
              have HW := hW
              clear hW hlt ht
              go_wp2_with fail
              go_loopw [14] (fun p wr => ∃ t : Nat, p = .int .i64 (t : Int) ∧ t ≤ K0 ∧ Hid (Below w6.heap.size w6 wr)) (fun p _ => K0 - (RowKit.intOf p).toNat)
              case atStart => exact ⟨0, rfl, Nat.zero_le _, HW⟩
              case round =>
                clear HW
                obtain ⟨t, rfl, ht, hW⟩ := hrel
                by_cases hlt : t < K0
                · have hr := in_row hG.out (r := 0) (l := g0) HG0.out (t := t) (by rw [← HK0.out]; exact hlt)
                  obtain ⟨q, hz, hmem, hq32⟩ := hr
                  have hq32 : q < 32 := by omega
                  obtain ⟨g, cap, hv, hcap, hgb, hgl⟩ := row_pos O6.out (by omega)
                  cases hv
                  have hcz := (hW.out.cell (p := ⟨g, t, none⟩) hgl).trans (cel_of O6.out t (q : Int) hz)
                  have hXl := hBk6.out.lt
                  have hcC := (hW.out.cell (p := ⟨X, q, none⟩) hXl).trans (hBk6.out.cell (lc_at (last := last) hq32))
                  have hC0 : last q = 0 := by have := hG.out.once (q : Int) (by rw [← HG0.out]; exact hmem); simp only [Int.toNat_natCast] at this; exact this
                  rw [hC0] at hcC
                  replace hcC : wr.cell? ⟨X, q, none⟩ = some (.int .i64 0) := hcC
                  have t0 : (0 : Int) ≤ (t : Int) := by omega
                  have t1 : (t : Int) < (K0 : Int) := by omega
                  have t2 : (t : Int) + 1 ≤ 32 := by omega
                  have q0 : (0 : Int) ≤ (q : Int) := by omega
                  have q1 : (q : Int) < 32 := by omega
                  have q2 : decide ((31 : Int) < (q : Int)) = false := decide_eq_false (by omega)
                  have q3 : decide ((q : Int) < 0) = false := decide_eq_false (by omega)
                  have q4 : decide (31 < q) = false := decide_eq_false (by omega)
                  rcases Nat.eq_zero_or_pos t with h0 | hpos
                  · subst h0
                    clear hz hmem hcap hgb hgl hXl hC0
                    go_wp2_with fail
                    go_quiet (fail)
                    go_wp2_with fail
                    go_roundw
                    case rel => exact ⟨1, rfl, by omega, hid (drewn_below hW.out _)⟩
                    case measure => simp [RowKit.intOf] <;> omega
                  · obtain ⟨u, hu⟩ : ∃ u, t = u + 1 := ⟨t - 1, by omega⟩
                    obtain ⟨q', hz', hmem', hq32'⟩ := in_row hG.out (r := 0) (l := g0) HG0.out (t := u) (by rw [← HK0.out]; omega)
                    have hcz' := (hW.out.cell (p := ⟨g, u, none⟩) hgl).trans (cel_of O6.out u (q' : Int) hz')
                    have hlq : (q : Int) < (q' : Int) := by
                      have hp := hG.out.onceP
                      rw [← HG0.out] at hp
                      exact pair_at hp hz' (by rw [← hu]; exact hz)
                    have u0 : (0 : Int) ≤ (u : Int) := by omega
                    have u1 : (u : Int) < (K0 : Int) := by omega
                    have u2 : (t : Int) - 1 = (u : Int) := by omega
                    have u3 : IntKind.i64.wrap (u : Int) = (u : Int) := by rw [IntKind.wrap_i64]; omega
                    have u4 : decide ((0 : Int) < (t : Int)) = true := decide_eq_true (by omega)
                    have u5 : decide (0 < t) = true := decide_eq_true hpos
                    have l0 : decide ((q' : Int) ≤ (q : Int)) = false := decide_eq_false (by omega)
                    have l1 : decide (q' ≤ q) = false := decide_eq_false (by omega)
                    have u6 : u < K0 := by omega
                    clear hz hmem hcap hgb hgl hXl hC0 hz' hmem' hlq hu
                    go_wp2_with fail
                    go_quiet (fail)
                    go_wp2_with fail
                    go_roundw
                    case rel => exact ⟨t + 1, by go_num, by omega, hid (drewn_below hW.out _)⟩
                    case measure => simp [RowKit.intOf] <;> omega
                · obtain rfl : t = K0 := by omega
                  have hF := hid (Below.then HB.out hW.out)
                  clear hW hlt ht
                  go_wp2_with fail
                  go_ret
                  exact ⟨rfl, hF.out⟩
end Go.Proofs.Ytklmgmkeaipppaa.Ac
