/-
  The law SlabPlays at this program. No conditions but that the numbers are an int's.
-/
import Derived.Test.YtldfpacdlephcaaSlabPlays
import Derived.Test.YtldfpacdlephcaaM5
import Derived.Laws.AppendOwnNone
import Derived.Deep.DeepCutAuto
namespace Go.Proofs.Ytldfpacdlephcaa
open Go Go.RowKit Go.Lib

theorem arenas_ok (k : Nat) (h1 : 1 ≤ k) (h2 : k ≤ 1024) (W : World) :
    Calls Try.prog 9 #[.int .i64 (k : Int), .int .i64 512] W fun e w' => ∃ P O R, e = .returned (.tuple #[.pointer (some ⟨P, 0, none⟩), .int .i64 0]) ∧ AIs P O R (newSt k 512) w' ∧ Below W.heap.size W w' ∧ W.heap.size ≤ P ∧ W.heap.size ≤ O ∧ W.heap.size ≤ R :=
  new_ok k 512 h1 h2 (by omega) (by omega) page512 W
theorem arenas_ref_ok (k : Nat) (h1 : 1 ≤ k) (h2 : k ≤ 1024) (W : World) :
    Calls Try.prog 10 #[.int .i64 (k : Int), .int .i64 512] W fun e w' => ∃ P O B cO cB, e = .returned (.tuple #[.pointer (some ⟨P, 0, none⟩), .int .i64 0]) ∧ RIs P O B cO cB (fun _ => none) (newSt k 512) w' ∧ Below W.heap.size W w' ∧ W.heap.size ≤ P ∧ W.heap.size ≤ O ∧ W.heap.size ≤ B :=
  ref_new_ok k 512 h1 h2 (by omega) (by omega) (by decide) W

set_option maxHeartbeats 4000000 in
set_option maxRecDepth 100000 in
theorem plays7_law (n : Int) (a1 : Option Addr) (m1 c1 : Nat) (zs : List Int) (hzl : zs.length = m1) (hmc : m1 ≤ c1) (hc1 : c1 ≤ 9223372036854775807) (hnil : a1 = none → c1 = 0) (a2 : Option Addr) (m c : Nat) (w : World) (hZ : Sz.Ints w (.slice a1 m1 c1) zs)
    (hops : ∀ i, i < m → ∃ b off kd A B x y z l, a2 = some ⟨b, off, none⟩ ∧ OpAt7 w b (off + i * 4) kd A B x y z l) :
    Calls Try.prog 3 #[.int .i64 n, .slice a1 m1 c1, .slice a2 m c] w fun e w' => e = .returned (.bool true) ∧ Below w.heap.size w w' := by
  obtain ⟨i0, hi, hz0, hz1, hz2⟩ := info_parts infoInt
  have HOPS := hid hops
  have HZ := hid hZ
  have HNIL := hid hnil
  clear hops hZ hnil
  go_enter Try.func3, Try.ntmps3
  go_wp2_with fail
  refine (shown_any _).mono ?_
  rintro e w1 ⟨rfl, b1⟩
  have HB1 := hid b1
  clear b1
  go_upto_if 30 with fail
  go_cut [1] from 28 to 32 (fun v wx => wx = w1 ∧ ∃ (N : Nat) (ys : List Int), N ≤ 100 ∧ v = .slice a1 N c1 ∧ ys.length = N ∧ Hid (Sz.Ints w (.slice a1 N c1) ys))
  case first =>
    by_cases h100 : m1 ≤ 100
    · have i1 : (m1 : Int) ≤ 100 := by omega
      have HL := hid hzl
      clear hzl HOPS HNIL HB1
      go_wp2_with fail
      go_meet
      exact ⟨rfl, m1, zs, h100, rfl, HL.out, HZ⟩
    · obtain ⟨ad, rfl⟩ := ints_some HZ.out (by omega)
      have HT := hid (ints_take HZ.out (k := 100) (by omega))
      have HL : Hid ((zs.take 100).length = 100) := hid (by rw [List.length_take]; omega)
      have i1 : (100 : Int) < (m1 : Int) := by omega
      clear hzl HOPS HNIL HB1 HZ
      go_wp2_with fail
      go_meet
      exact ⟨rfl, 100, zs.take 100, by omega, rfl, HL.out, HT⟩
  case rest =>
  obtain ⟨hw, N, ys, hN, rfl, hyl, HY⟩ := hcut
  subst hw
  have HYL := hid hyl
  clear HZ hzl hyl hmc
  go_upto_region 4 with fail
  rename World => wB
  go_cut [8] from 33 to 35 (fun v wx => (∃ al cl, v = .slice al N cl ∧ Hid (wx.ownsRow wB.heap.size 3 1 (.slice al N cl) N (ic ys))) ∧ Hid (Below wB.heap.size wB wx))
  case first =>
    have hob := own_none' wB wB.heap.size 3 (Nat.le_refl _)
    have HOB := hid hob
    cases a1 with
    | none =>
      obtain rfl : c1 = 0 := HNIL.out rfl
      have hy0 : ys = [] := by
        obtain ⟨a', c', e, hx⟩ := HY.out
        cases e
        cases ys with
        | nil => rfl
        | cons y r =>
          obtain ⟨b, o, e, _⟩ := hx 0 y rfl
          cases e
      subst hy0
      obtain rfl : 0 = N := HYL.out
      clear HOPS HNIL HB1 HY HYL hN
      go_wp2_with (at_builtin; refine wpList_append_own_none rfl _ _ 22 rfl wB.heap.size 3 i0 1 Try.underlying22 hi (.slice (some ⟨wB.heap.size, 0, none⟩) 0 0) 0 [] rfl hob rfl ?_)
      go_meet
      exact ⟨⟨_, _, rfl, HOB⟩, hid ((Below.refl _ _).alloc (Nat.le_refl _) _)⟩
    | some ad =>
      have hsrc := ints_src HY.out HB1.out (.cells #[] 3)
      have hlen : (ic ys).length = N * 1 := by rw [ic_len, HYL.out, Nat.mul_one]
      clear HOPS HNIL HB1 HY HOB HYL
      go_wp2_with (at_builtin; refine wpList_append_own _ rfl _ _ 22 rfl wB.heap.size 3 i0 (.int .i64 0) 1 8 Try.underlying22 hi hz0 hz1 hz2 rfl (by decide) _ 0 [] rfl hob ad N c1 (ic ys) rfl hlen hsrc (ic_ok _) (by unfold maxLen; omega) (by omega) (by simp) ?_; intro v' w2 hown' hgrow _)
      have hb2 : Below wB.heap.size wB w2 := below_app2 (Below.refl _ _) hgrow
      rw [Nat.zero_add, List.nil_append] at hown'
      obtain ⟨va, vc, rfl⟩ := row_form hown'
      have HO2 := hid hown'
      have HB2 := hid hb2
      clear hown' hgrow hb2 hsrc hlen hob
      go_wp2_with fail
      go_meet
      exact ⟨⟨_, _, rfl, HO2⟩, HB2⟩
  case rest =>
  obtain ⟨⟨al, cl, rfl, HOW⟩, HBC⟩ := hcut
  have HB2 := hid (Below.then HB1.out HBC.out)
  by_cases hok : 1 ≤ n ∧ n ≤ 1024
  · obtain ⟨k, rfl⟩ : ∃ k : Nat, n = k := ⟨n.toNat, by omega⟩
    have hA := arenas_ok k (by omega) (by omega)
    have hR := arenas_ref_ok k (by omega) (by omega)
    have HR := hid hR
    clear hok hR
    go_wp2_with fail
    refine (hA _).mono ?_
    rintro e w3 ⟨A, O, Bb, rfl, hAI, b3, hA1, hO1, hB1⟩
    have hr := HR.out w3
    have HAI := hid hAI
    have H3 := hid (And.intro b3 (And.intro hA1 (And.intro hO1 hB1)))
    clear hA hAI b3 hA1 hO1 hB1 HR
    go_wp2_with fail
    refine hr.mono ?_
    rintro e w4 ⟨A', O', B', cO, cB, rfl, hRI, b4, hA2, hO2, hB2⟩
    have b24 := Below.then H3.out.1 b4
    have HB4 := hid (Below.then HB2.out b24)
    have hOW4 := own_only HOW.out (Below.only (D := fun _ => False) b24) (fun _ _ => id)
    obtain ⟨er, hb⟩ := both_new (HAI.out.below b4) hRI al a1 N cl c1 ys HYL.out (by omega) (ints_own hOW4 HYL.out) (HY.out.below HB4.out)
    have HLT : Hid ((A < w3.heap.size ∧ O < w3.heap.size ∧ Bb < w3.heap.size) ∧ (∀ b, RFoot A' O' B' (fun _ => none) b → b < w4.heap.size) ∧ w3.heap.size ≤ w4.heap.size) := hid ⟨HAI.out.lt, fun b hb => hRI.lt b hb, b4.size⟩
    have H4 := hid (And.intro hA2 (And.intro hO2 hB2))
    have HOW4 := hid hOW4
    clear hr hRI b4 hA2 hO2 hB2 b24 hOW4 HAI
    go_wp2_with fail
    refine hb.mono ?_
    rintro e w5 ⟨q, rfl, b5, hr⟩
    have H5 := hid b5
    clear hb b5
    go_wp2_with fail
    refine hr.mono ?_
    rintro e w6 ⟨q', rfl, b6, hcase⟩
    have HB6 := hid (Below.then HB4.out b6)
    have HOW6 := hid (own_only HOW4.out (Below.only (D := fun _ => False) b6) (fun _ _ => id))
    clear hr b6 HOW4
    rcases hcase with ⟨rfl, rfl, rfl⟩ | ⟨P, P', rfl, rfl, rfl, _, _, w5', r, hM, hRM, rfl⟩
    · clear HOW HOW6 HY HOPS H3 H4 H5 HLT HB1 HB2 HB4 HBC HYL HNIL
      go_wp2_with fail
      go_ret
      exact ⟨rfl, HB6.out⟩
    · have HST : Hid (St7 wc.heap.size P r.P A A' w6) := hid (St7.made hM hRM wc.heap.size ⟨H3.out.2.1, H3.out.2.2.1, H3.out.2.2.2⟩ H4.out H3.out.1.size HLT.out.2.2 HLT.out.1 HLT.out.2.1)
      have HBL : Hid (∀ g, (Value.slice al N cl).ownBlock = some g → w.heap.size ≤ g ∧ g < wc.heap.size) := hid (fun g hg => ⟨Nat.le_trans HB1.out.size (own_ge HOW.out g hg), own_lt HOW.out g hg⟩)
      have HSL : Hid (Slots w6 3 (.slice al N cl) N wB.heap.size) := hid ⟨_, HOW6.out⟩
      clear hM hRM HOW HOW6 H3 H4 H5 HLT HB4 HBC HNIL
      obtain ⟨P2, hP2⟩ : ∃ P2, r.P = P2 := ⟨_, rfl⟩
      rw [hP2] at HST
      rw [hP2]
      clear hP2
      go_wp2_with fail
      go_loopw [19] (fun i wr => ∃ j : Nat, j ≤ N ∧ i = .int .i64 j ∧ Hid (St7 wc.heap.size P P2 A A' wr) ∧ Hid (Slots wr 3 (.slice al N cl) N wB.heap.size) ∧ Hid (Below w.heap.size w wr)) (fun i _ => N - (intOf i).toNat)
      case atStart => exact ⟨0, Nat.zero_le _, rfl, HST, HSL, HB6⟩
      case round =>
        obtain ⟨j, hj, rfl, HS, HL, HW⟩ := hrel
        clear HST HSL HB6
        by_cases hlt : j < N
        · obtain ⟨g, x, rfl, hcx, hfx, hset⟩ := HL.out.at hlt
          obtain ⟨hg1, hg2⟩ := HBL.out g rfl
          have ilt : (j : Int) < (N : Int) := by omega
          have HL' : Hid (Slots (wr.setCell ⟨g, j, none⟩ (.int .i64 1)) 3 (.slice (some ⟨g, 0, none⟩) N cl) N wB.heap.size) := hid (hset _)
          have ho := (Only.refl (fun b => b = g) wr).setCell (p := ⟨g, j, none⟩) (.inl rfl) (.int .i64 1)
          have HS' := hid (HS.out.only ho (fun b hb => hb ▸ hg2))
          have HW' := hid (HW.out.trans (ho.below HW.out.size (fun b hb => hb ▸ hg1)))
          clear HS HL HW hset ho HY HOPS HB1 HB2 HYL HBL
          go_wp2_with fail
          go_roundw
          case rel => exact ⟨j + 1, by omega, by go_num, HS', HL', HW'⟩
          case measure => simp [intOf] <;> omega
        · obtain rfl : j = N := by omega
          have HST : Hid (St7 w.heap.size P P2 A A' wr) := hid (HS.out.weak HB2.out.size)
          clear HS HL HBL HB1 HB2
          go_wp2_with fail
          rename World => w8
          go_loopw [20] (fun i wr => ∃ t : Nat, t ≤ 150 ∧ i = .int .i64 t ∧ Hid (St7 w.heap.size P P2 A A' wr) ∧ Hid (Below w.heap.size w wr)) (fun i _ => 150 - (intOf i).toNat)
          case atStart => exact ⟨0, by omega, rfl, HST, HW⟩
          case round =>
            obtain ⟨t, ht, rfl, HT, HX⟩ := hrel
            clear HST HW
            by_cases hgo : t < m ∧ t < 150
            · obtain ⟨i1, i2⟩ : (t : Int) < (m : Int) ∧ (t : Int) < 150 := by omega
              obtain ⟨b, off, kd, X, Y, x, y, z, l, rfl, hop⟩ := HOPS.out t hgo.1
              have hd := HT.out.does HX.out hop
              have f0 := (HX.out.cell (p := ⟨b, off + t * 4, none⟩) hop.lt).trans hop.e0
              have f1 := (HX.out.cell (p := ⟨b, off + t * 4 + 1, none⟩) hop.lt).trans hop.e1
              have f2 := (HX.out.cell (p := ⟨b, off + t * 4 + 2, none⟩) hop.lt).trans hop.e2
              have f3 := (HX.out.cell (p := ⟨b, off + t * 4 + 3, none⟩) hop.lt).trans hop.e3
              clear HOPS hop HT HX HY HYL hgo
              go_wp2_with fail
              refine hd.mono ?_
              rintro e w9 ⟨rfl, hs9, hb9⟩
              have hcn := hs9.counts
              have HB9 := hid hb9
              clear hd hs9 hb9 f0 f1 f2 f3
              go_wp2_with fail
              refine hcn.mono ?_
              rintro e w10 ⟨rfl, hs10, hb10⟩
              have HS10 := hid hs10
              have HB10 := hid (Below.then HB9.out hb10)
              clear hcn hs10 hb10 HB9
              go_wp2_with fail
              go_roundw
              case rel => exact ⟨t + 1, by omega, by go_num, HS10, HB10⟩
              case measure => simp [intOf] <;> omega
            · have hcase : ¬ (t : Int) < (m : Int) ∨ ((t : Int) < (m : Int) ∧ ¬ (t : Int) < 150) := by omega
              obtain ⟨er, hb⟩ := HT.out.again a1 _ c1 ys HYL.out (by omega) (HY.out.below HX.out)
              clear HOPS hgo HT HY HYL
              rcases hcase with g1 | ⟨g1, g2⟩
              all_goals
                go_wp2_with fail
                refine hb.mono ?_
                rintro e w9 ⟨q, rfl, b9, hr⟩
                clear hb b9
                go_wp2_with fail
                refine hr.mono ?_
                rintro e w10 ⟨q', rfl, b10, hcase⟩
                have HB10 := hid (Below.then HX.out b10)
                clear hr b10 HX
                rcases hcase with ⟨rfl, rfl, rfl⟩ | ⟨P3, P4, rfl, rfl, rfl, _⟩
                all_goals
                  go_wp2_with fail
                  go_ret
                  exact ⟨rfl, HB10.out⟩
  · have hA := new_bad n 512 (fun h => hok ⟨h.1, h.2.1⟩)
    have hR := ref_new_bad n 512 (fun h => hok ⟨h.1, h.2.1⟩)
    have hN0 := new_nil (.slice al N cl)
    clear hok HOPS HY HOW
    go_wp2_with fail
    refine (hA _).mono ?_
    rintro e w3 ⟨rfl, rfl⟩
    clear hA
    go_wp2_with fail
    refine (hR _).mono ?_
    rintro e w3 ⟨rfl, rfl⟩
    clear hR
    go_wp2_with fail
    refine (hN0 _).mono ?_
    rintro e w3 ⟨rfl, rfl⟩
    clear hN0
    go_wp2_with fail
    go_ret
    exact ⟨rfl, HB2.out⟩
end Go.Proofs.Ytldfpacdlephcaa
