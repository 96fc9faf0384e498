/-
  The law ArenaGrants at this program. No conditions but that the numbers are an int's.
-/
import Derived.Test.YtclddaacbfgnlaaArenaGrants
import Derived.Deep.RegionHeld3
import Derived.BigQuiet
import Derived.Deep.DeepCutAuto
namespace Go.Proofs.Ytclddaacbfgnlaa
open Go Go.RowKit Go.Lib

/-- What a return of page k answers, its owner being z. -/
theorem ret_cases {s : St} {k : Nat} {z : Int} (hok : s.Ok) (hz : s.ow[k]? = some z) : ∃ (c : Int) (s' : St), s.ret k = (c, s') ∧ s'.ow.length = s.ow.length ∧ heldOf s'.ow = (heldOf s.ow).set k 0 ∧ (Small s.ow → Small s'.ow) ∧
    (c == 0) = decide (0 < z + 1) := by
  have hr := hok.ow z (List.mem_of_getElem? hz)
  unfold St.ret grB
  rw [ownerOf_at hz]
  by_cases h : z = -1
  · subst h
    rw [if_neg (by decide)]
    exact ⟨7, s, rfl, rfl, (held_same hz).symm, id, by decide⟩
  · rw [if_pos (by simpa using h), Int.toNat_natCast]
    refine ⟨0, _, rfl, by simp [St.setOw], ?_, fun hs => small_set hs k (by decide), by simp; omega⟩
    show heldOf (s.ow.set k (-1)) = _
    rw [held_set]; rfl

theorem neg_mod {p : Int} {r : Nat} {c : Int} (h : p < 0) (e : (p + 1).tmod c = -(r : Int)) : -(p + 1) % c = (r : Int) := by
  rw [← Int.tmod_eq_emod_of_nonneg (by omega), Int.neg_tmod, e]; omega

theorem below_drewn {B : Nat} {w w' : World} (h : Below B w w') (n : Nat) : Below B w (w'.drewN n) := ⟨h.os, h.tape, h.output, h.size, h.block⟩
theorem ints_row {w : World} {base L : Nat} {v : Value} {zs : List Int} (hL : zs.length = L) (h : w.ownsRow base 3 1 v L (ic zs)) :
    ∃ a c, v = .slice a L c ∧ ∀ j z, zs[j]? = some z → ∃ b, a = some ⟨b, 0, none⟩ ∧ b < w.heap.size ∧ w.cell? ⟨b, j, none⟩ = some (.int .i64 z) := by
  have hlt := h.lt
  have hcs := @World.ownsRow.cells _ _ _ _ _ _ _ h
  rcases h.2 with ⟨rfl, h0⟩ | ⟨g, cap, cur, rfl, hb, hg, hcap, _⟩
  · refine ⟨none, 0, by rw [h0], fun j x hj => ?_⟩
    rw [List.eq_nil_of_length_eq_zero (hL.trans h0)] at hj; simp at hj
  · refine ⟨some ⟨g, 0, none⟩, cap, rfl, fun j x hj => ⟨g, rfl, (hlt g rfl).2, ?_⟩⟩
    have := hcs rfl j _ (ic_at hj)
    rw [addr_plain, Nat.zero_add] at this; exact this
theorem tot_le {ow : List Int} (hr : ow.length ≤ 20) : ∀ m, tot ow m ≤ m * 20
  | 0 => by simp [tot]
  | m + 1 => by
    have := tot_le hr m
    have h2 : (pagesOf ow (m : Int)).length ≤ 20 := by
      unfold pagesOf
      rw [if_pos (by omega)]
      have := pagesTo_len ow (m : Int) ow.length
      omega
    unfold tot; omega

/-- One page of an owner's, as it is looked at. -/
theorem pages_look {P O R G N o i L : Nat} {s : St} {w0 wz : World} (hN : s.ow.length = N) (hA : AIs P O R s w0) (hcl : ∀ j z, s.ow[j]? = some z → w0.cell? ⟨G, j, none⟩ = some (.int .i64 (z + 1))) (hG : G < w0.heap.size) (hb : Below w0.heap.size w0 wz)
    (hL : (pagesOf s.ow (o : Int)).length = L) (hi : i < L) :
    ∃ j : Nat, (pagesOf s.ow (o : Int))[i]? = some (j : Int) ∧ j < N ∧ wz.cell? ⟨G, j, none⟩ = some (.int .i64 ((o : Int) + 1)) ∧
      (∀ n, Calls Try.prog 17 #[.pointer (some ⟨P, 0, none⟩), .int .i64 j] (wz.drewN n) fun e w'' => e = .returned (.int .i64 o) ∧ ∃ m, w'' = wz.drewN m) ∧
      (i = 0 ∨ ∃ q j' : Nat, i = q + 1 ∧ (pagesOf s.ow (o : Int))[q]? = some (j' : Int) ∧ j' < j) := by
  have hp : pagesOf s.ow (o : Int) = pagesTo s.ow (o : Int) s.ow.length := by unfold pagesOf; rw [if_pos (by omega)]
  rw [hp] at hL ⊢
  obtain ⟨x, hx⟩ : ∃ x, (pagesTo s.ow (o : Int) s.ow.length)[i]? = some x := ⟨_, List.getElem?_eq_getElem (by omega)⟩
  obtain ⟨j, rfl, hj, hz⟩ := pagesTo_at hx
  refine ⟨j, hx, by omega, (hb.cell (p := ⟨G, j, none⟩) hG).trans (hcl j _ hz), fun n => ?_, ?_⟩
  · have h := owner_any (hA.below (below_drewn hb n)) (j : Int)
    rw [ownerOf_at hz] at h
    exact h.mono fun e w' ⟨he, hw⟩ => ⟨he, n, hw.symm⟩
  · cases i with
    | zero => exact .inl rfl
    | succ q =>
      obtain ⟨y, hy⟩ : ∃ y, (pagesTo s.ow (o : Int) s.ow.length)[q]? = some y := ⟨_, List.getElem?_eq_getElem (by omega)⟩
      obtain ⟨j', rfl, _, _⟩ := pagesTo_at hy
      have := pagesTo_rise hy hx
      exact .inr ⟨q, j', rfl, hy, by omega⟩

set_option maxHeartbeats 4000000 in
set_option maxRecDepth 100000 in
theorem grants_law (p : Int) (p0 : -9223372036854775808 ≤ p) (p1 : p ≤ 9223372036854775807) (a : Option Addr) (m c : Nat) (zs : List Int) (hm : zs.length = m) (hzr : ∀ z ∈ zs, -9223372036854775808 ≤ z ∧ z ≤ 9223372036854775807) (hml : m ≤ 9223372036854775807) (w : World) (hZ : Ints w (.slice a m c) zs) :
    Calls Try.prog 4 #[.int .i64 p, .slice a m c] w fun e w' => e = .returned (.bool true) ∧ Below w.heap.size w w' := by
  obtain ⟨i0, hi, hz0, hz1, hz2⟩ := info_parts infoInt
  have HZ : Hid (∀ j z, zs[j]? = some z → ∃ b o, a = some ⟨b, o, none⟩ ∧ b < w.heap.size ∧ w.cell? ⟨b, o + j, none⟩ = some (.int .i64 z)) := by
    obtain ⟨a', c', e, hx⟩ := hZ
    cases e
    exact hid hx
  have HZR := hid hzr
  obtain ⟨r, hr, hp⟩ := fold_mod p 20
  have hr' := hr (by decide)
  obtain ⟨N, hN⟩ : ∃ N, N = 1 + r := ⟨_, rfl⟩
  have hN1 : 1 ≤ N := by omega
  have hN2 : N ≤ 20 := by omega
  have eN : 1 + (r : Int) = (N : Int) := by omega
  have e20 : ((20 : Nat) : Int) = 20 := rfl
  rw [e20] at hp
  have hnew := fun w => new512 N (by omega) (by omega) w
  have HM := hid hm
  clear e20 hN hr hZ hzr hm
  go_enter Try.func4, Try.ntmps4
  go_wp2_with fail
  refine (shown_any _).mono ?_
  rintro e w1 ⟨rfl, b1⟩
  go_upto_if 21 with fail
  go_cut [0] from 19 to 24 (fun v wx => (∃ q : Int, v = .int .i64 q ∧ 0 ≤ q ∧ q ≤ 9223372036854775807 ∧ q % 20 = (r : Int)) ∧ wx = w1)
  case first =>
    rcases hp with ⟨t0, t1⟩ | ⟨t0, t2, t1⟩
    · go_wp2_with fail
      go_meet
      exact ⟨⟨_, rfl, by omega, by omega, neg_mod t0 t1⟩, rfl⟩
    · go_wp2_with fail
      go_meet
      exact ⟨⟨_, rfl, by omega, by omega, t1⟩, rfl⟩
  case rest =>
    obtain ⟨⟨q, rfl, q0, q1, q2⟩, rfl⟩ := hcut
    clear hp
    go_wp2_with fail
    refine (hnew _).mono ?_
    rintro e w2 ⟨P, O, R, rfl, h, b2, hPw, hOw, hRw⟩
    have H := hid h
    have b3 : Below w.heap.size w w2 := Below.then b1 b2
    have hO' : w.heap.size ≤ O := Nat.le_trans b1.size hOw
    have hlt := h.lt
    clear h hnew b1 b2 hPw hOw hRw
    go_wp2_with (at_make; refine wpList_make_full _ rfl _ _ 36 rfl w2.heap.size 3 i0 (.int .i64 0) 1 Try.underlying36 hi hz0 hz1 .i64 .i64 _ _ N rfl rfl (by omega) (by omega) (by rw [hz2]; omega) (by unfold maxLen; omega) (Nat.le_refl _) ?_; intro w3 hown hgrow; rw [made_cells _ _ rfl] at hown; have hB0 := blk_of_full hown; have hb0 := below_of_grown hgrow; clear hown hgrow)
    have hB1 : Blk w3 w2.heap.size 3 (ic (heldOf (newSt N 512).ow)) := by
      rw [held_zero]; simpa [ic] using hB0
    have HA := hid (H.out.below hb0)
    have HB := hid hB1
    have b4 : Below w.heap.size w w3 := b3.trans (hb0.mono b3.size)
    have hG' : w.heap.size ≤ w2.heap.size := b3.size
    have hGP : w2.heap.size ≠ P := by omega
    have hGO : w2.heap.size ≠ O := by omega
    have hGR : w2.heap.size ≠ R := by omega
    clear H hB0 hb0 hB1 b3 hlt
    generalize w2.heap.size = G at *
    go_wp2_with fail
    go_loopw [9] (fun z wr => ∃ (k : Nat) (s : St), k ≤ 100 ∧ z = .int .i64 k ∧ s.ow.length = N ∧ Hid (Small s.ow) ∧ Hid (AIs P O R s wr) ∧ Hid (Blk wr G 3 (ic (heldOf s.ow))) ∧ Below w.heap.size w wr) (fun z _ => 100 - (intOf z).toNat)
    case atStart => exact ⟨0, newSt N 512, by omega, rfl, List.length_replicate, hid (small_zero N), HA, HB, b4⟩
    case round =>
      obtain ⟨k, s, hk, rfl, hsN, HS, HA', HB', hb⟩ := hrel
      clear HA HB b4
      by_cases hgo : k < m ∧ k < 100
      · obtain ⟨i1, i2⟩ : (k : Int) < (m : Int) ∧ (k : Int) < 100 := by omega
        obtain ⟨z, hz⟩ : ∃ z, zs[k]? = some z := ⟨_, List.getElem?_eq_getElem (by rw [HM.out]; omega)⟩
        obtain ⟨bz, oz, rfl, lz, cz⟩ := HZ.out k z hz
        have cz' : wr.cell? ⟨bz, oz + k, none⟩ = some (.int .i64 z) := (hb.cell (p := ⟨bz, oz + k, none⟩) lz).trans cz
        obtain ⟨z1, z2⟩ := HZR.out z (List.mem_of_getElem? hz)
        clear HZ HZR HM hz cz lz
        by_cases hzn : z < 0
        · obtain ⟨j, hj, hzj⟩ := fold_mod z N
          have hj := hj (by omega)
          have ej : (z + 1).tmod (N : Int) = -(j : Int) := by
            rcases hzj with ⟨_, e⟩ | ⟨h, _⟩
            · exact e
            · exact (h hzn).elim
          have ilt : (j : Int) < (N : Int) := by omega
          obtain ⟨y, hy⟩ : ∃ y, s.ow[j]? = some y := ⟨_, List.getElem?_eq_getElem (by omega)⟩
          obtain ⟨cc, s', hre, hl', hh', hsm, hcc⟩ := ret_cases HA'.out.ok hy
          have hret := return_any HA'.out.drew (j : Int)
          rw [hre] at hret
          have hcj : wr.cell? ⟨G, j, none⟩ = some (.int .i64 (y + 1)) := HB'.out.cell (ic_at (held_at hy))
          have HY := hid (ic_at (held_at hy))
          have hl2 : s'.ow.length = N := by omega
          have HS' := hid (hsm HS.out)
          have HH := hid hh'
          clear hzj hre hy hsm hl' hh' HS
          go_wp2_with fail
          go_region_held3 (fun w' => w'.cell? ⟨G, j, none⟩ = some (.int .i64 (y + 1))) (first | exact hcj4 | exact hcj) (first | (go_at_call 14; refine hret.mono ?_; rintro e w4 ⟨rfl, h, ho⟩; have HA4 := hid h; have HB4 := hid (HB'.out.drew.only ho hGO); have b5 := only_below hb.drew ho (Nat.le_refl _) hO'; have hcj4 := HB4.out.cell HY.out; have hfr4 := HB4.out.frozen j; clear h ho))
          have HB5 : Hid (Blk (w4.setCell ⟨G, j, none⟩ (.int .i64 0)) G 3 (ic (heldOf s'.ow))) := hid (by
            rw [HH.out, ic_set]; exact HB4.out.set j _)
          have HA5 := hid (HA4.out.setOther j (.int .i64 0) hGP hGO hGR)
          have b6 := b5.setCell (p := ⟨G, j, none⟩) hG' (.int .i64 0)
          clear hret HA4 HB4 b5 HH HY HA' HB' hb
          go_wp2_with fail
          go_roundw
          case rel => exact ⟨k + 1, s', by omega, by go_num, hl2, HS', HA5, HB5, b6⟩
          case measure => simp [intOf] <;> omega
        · have hz0' : 0 ≤ z := by omega
          obtain ⟨t, et⟩ : ∃ t : Nat, z % 5 = (t : Int) := ⟨(z % 5).toNat, by omega⟩
          have ht5 : t < 5 := by omega
          have htB : ownB (t : Int) = true := by unfold ownB; rw [decide_eq_true_iff]; omega
          have HT := hid htB
          clear htB hzn
          go_wp2_with fail
          go_loop [12] (fun v => ∃ j : Nat, j ≤ N ∧ v = .int .i64 j ∧ Hid (∀ (i : Nat) y, i < j → s.ow[i]? = some y → y ≠ -1)) (fun v => N - (intOf v).toNat)
          case atStart => exact ⟨0, Nat.zero_le _, rfl, hid fun i y h => by omega⟩
          case round =>
            obtain ⟨j, hj, rfl, HJ⟩ := hrel
            by_cases hjN : j < N
            · have ilt : (j : Int) < (N : Int) := by omega
              obtain ⟨y, hy⟩ : ∃ y, s.ow[j]? = some y := ⟨_, List.getElem?_eq_getElem (by omega)⟩
              by_cases hy1 : y = -1
              · subst hy1
                have hcj : wr.cell? ⟨G, j, none⟩ = some (.int .i64 0) := HB'.out.cell (ic_at (held_at hy))
                have hg := grant_any HA'.out (t : Int)
                rw [grant_at HT.out (fi_is hy HJ.out)] at hg
                have HL : Hid ((s.setOw j (t : Int)).ow.length = N) := hid (by
                  have : (s.ow.set j (t : Int)).length = s.ow.length := List.length_set
                  exact this.trans hsN)
                have HS2 := hid (small_set HS.out j (z := (t : Int)) (by omega))
                have HY := hid (ic_at (held_at hy))
                clear hy HJ HS HT
                go_wp2_with fail
                refine hg.mono ?_
                rintro e w4 ⟨rfl, h, ho⟩
                have HB4 := hid (HB'.out.only ho hGO)
                have b5 := only_below hb ho (Nat.le_refl _) hO'
                have hcj4 := HB4.out.cell HY.out
                have hfr4 := HB4.out.frozen j
                have HB5 : Hid (Blk (w4.setCell ⟨G, j, none⟩ (.int .i64 ((t : Int) + 1))) G 3 (ic (heldOf (s.ow.set j (t : Int))))) := hid (by
                  rw [held_set, ic_set]; exact HB4.out.set j _)
                have HA5 := hid (h.setOther j (.int .i64 ((t : Int) + 1)) hGP hGO hGR)
                have b6 := b5.setCell (p := ⟨G, j, none⟩) hG' (.int .i64 ((t : Int) + 1))
                clear hg h ho HB4 b5 HA' HB' hb HY hcj
                go_wp2_with fail
                go_roundw
                case rel => exact ⟨k + 1, s.setOw j (t : Int), by omega, by go_num, HL.out, HS2, HA5, HB5, b6⟩
                case measure => simp [intOf] <;> omega
              · have hcj : wr.cell? ⟨G, j, none⟩ = some (.int .i64 (y + 1)) := HB'.out.cell (ic_at (held_at hy))
                have hyr := HA'.out.ok.ow y (List.mem_of_getElem? hy)
                have hpos : 0 < y + 1 := by omega
                have HJ' : Hid (∀ (i : Nat) y, i < j + 1 → s.ow[i]? = some y → y ≠ -1) := hid (fun i y' hi hy' => by
                  by_cases e : i = j
                  · subst e
                    rw [hy] at hy'
                    cases hy'; exact hy1
                  · exact HJ.out i y' (by omega) hy')
                clear hy HJ hyr hy1 HA' HB' HS HT
                go_wp2_with fail
                go_round
                case rel => exact ⟨j + 1, by omega, by go_num, HJ'⟩
                case measure => simp [intOf] <;> omega
            · obtain rfl : j = N := by omega
              have hg := grant_any HA'.out (t : Int)
              have hnone : fi s.ow (-1) 0 = -1 := fi_none fun i y hy => HJ.out i y (by have := (List.getElem?_eq_some_iff.1 hy).1; omega) hy
              rw [grant_none HT.out hnone] at hg
              clear hnone HJ HT
              go_wp2_with fail
              refine hg.mono ?_
              rintro e w4 ⟨rfl, h, ho⟩
              have HB4 := hid (HB'.out.only ho hGO)
              have b5 := only_below hb ho (Nat.le_refl _) hO'
              have HA4 := hid h
              clear hg h ho HA' HB' hb
              go_wp2_with fail
              go_roundw
              case rel => exact ⟨k + 1, s, by omega, by go_num, hsN, HS, HA4, HB4, b5⟩
              case measure => simp [intOf] <;> omega
      · have hcase : ¬ (k : Int) < (m : Int) ∨ ((k : Int) < (m : Int) ∧ ¬ (k : Int) < 100) := by omega
        have htot := tot_all HA'.out.ok.ow HS.out
        have HTOT := hid htot
        have hcl : ∀ j z, s.ow[j]? = some z → wr.cell? ⟨G, j, none⟩ = some (.int .i64 (z + 1)) := fun j z hj => HB'.out.cell (ic_at (held_at hj))
        have HCL := hid hcl
        have hGlt := HB'.out.lt
        clear hgo HZ HZR HM htot hcl HB' HS
        rcases hcase with g1 | ⟨g1, g2⟩
        all_goals
          go_wp2_with fail
          go_loopw [15, 16] (fun tv ov wq => ∃ o : Nat, o ≤ 5 ∧ ov = .int .i64 o ∧ tv = .int .i64 (tot s.ow o : Nat) ∧ Below wr.heap.size wr wq) (fun _ ov _ => 5 - (intOf ov).toNat)
          case atStart => exact ⟨0, by omega, rfl, rfl, Below.refl _ _⟩
          case round =>
            obtain ⟨o, ho, rfl, rfl, hbq⟩ := hrel
            by_cases ho5 : o < 5
            · have ilt : (o : Int) < 5 := by omega
              have hpg := pages_any (HA'.out.below hbq) (o : Int)
              have hT := tot_le (ow := s.ow) (by omega) o
              have hT2 := tot_le (ow := s.ow) (by omega) (o + 1)
              have hTe : tot s.ow (o + 1) = tot s.ow o + (pagesOf s.ow (o : Int)).length := rfl
              obtain ⟨L, hL⟩ : ∃ L, (pagesOf s.ow (o : Int)).length = L := ⟨_, rfl⟩
              rw [hL] at hTe hpg
              obtain ⟨T, hTT⟩ : ∃ T, tot s.ow o = T := ⟨_, rfl⟩
              obtain ⟨T', hTT'⟩ : ∃ T', tot s.ow (o + 1) = T' := ⟨_, rfl⟩
              rw [hTT] at hT hTe ⊢
              rw [hTT'] at hT2 hTe
              have HT' := hid hTT'
              have HL := hid hL
              have ht1 : T ≤ 100 := by omega
              have ht2 : T + L ≤ 100 := by omega
              have HTe := hid hTe
              clear hT hT2 hTT hTT' hL hTe
              go_wp2_with fail
              refine hpg.mono ?_
              rintro e w5 ⟨v, rfl, hown, hb5⟩
              have hbq5 := hbq.trans (hb5.mono hbq.size)
              obtain ⟨a, c, rfl, hx⟩ := ints_row HL.out hown
              have HX := hid hx
              clear hown hb5 hpg hx hbq
              go_wp2_with fail
              go_loopw [15, 18] (fun tv iv wz => ∃ i : Nat, i ≤ L ∧ iv = .int .i64 i ∧ tv = .int .i64 ((T + i : Nat) : Int) ∧ Below w5.heap.size w5 wz) (fun _ iv _ => L - (intOf iv).toNat)
              case atStart => exact ⟨0, Nat.zero_le _, rfl, rfl, Below.refl _ _⟩
              case round =>
                obtain ⟨i, hi, rfl, rfl, hbz⟩ := hrel
                have hbz0 := hbq5.trans (hbz.mono hbq5.size)
                by_cases hiL : i < L
                · have iltL : (i : Int) < (L : Int) := by omega
                  obtain ⟨j, hj, hjN, hcg, cO, hprev⟩ := pages_look hsN HA'.out HCL.out hGlt hbz0 HL.out hiL
                  obtain ⟨g, rfl, hgl, hcj⟩ := HX.out i _ hj
                  have hcj' : wr.cell? ⟨g, i, none⟩ = some (.int .i64 (j : Int)) := (hbz.cell (p := ⟨g, i, none⟩) hgl).trans hcj
                  have d1 : decide ((j : Int) < 0) = false := by simp
                  have d2 : decide ((N : Int) ≤ (j : Int)) = false := by simp; omega
                  have d2n : decide (N ≤ j) = false := by simp; omega
                  have hjlt : (j : Int) < (N : Int) := by omega
                  have hpre : (i = 0) ∨ ∃ q j' : Nat, i = q + 1 ∧ wr.cell? ⟨g, q, none⟩ = some (.int .i64 (j' : Int)) ∧ j' < j := by
                    rcases hprev with h0 | ⟨q, j', h1, h2, h3⟩
                    · exact .inl h0
                    · obtain ⟨g', e, _, hcq⟩ := HX.out q _ h2
                      cases e
                      exact .inr ⟨q, j', h1, (hbz.cell (p := ⟨g, q, none⟩) hgl).trans hcq, h3⟩
                  clear hj hcj hprev HX HL HT' HTe HA' HCL HTOT hgl
                  rcases hpre with rfl | ⟨q, j', rfl, hcq, hlt'⟩
                  · go_wp2_with fail
                    go_quiet (exact cO _)
                    go_wp2_with fail
                    go_roundw
                    case rel => exact ⟨1, by omega, rfl, by go_num, below_drewn hbz _⟩
                    case measure => simp [intOf] <;> omega
                  · have d3 : decide ((j : Int) ≤ (j' : Int)) = false := by simp; omega
                    have d3n : decide (j ≤ j') = false := by simp; omega
                    have q1 : (q : Int) < (L : Int) := by omega
                    go_wp2_with fail
                    go_quiet (exact cO _)
                    go_wp2_with fail
                    go_roundw
                    case rel => exact ⟨q + 1 + 1, by omega, by go_num, by go_num, below_drewn hbz _⟩
                    case measure => simp [intOf] <;> omega
                · obtain rfl : i = L := by omega
                  have eT : tot s.ow (o + 1) = T + i := by rw [HT'.out, HTe.out]
                  have ET := hid eT
                  clear HX HL HT' HTe HA' HCL HTOT eT
                  go_wp2_with fail
                  go_roundw
                  case rel => exact ⟨o + 1, by omega, by go_num, by rw [ET.out], hbz0⟩
                  case measure => simp [intOf] <;> omega
            · obtain rfl : o = 5 := by omega
              have hcnt := granted_count (HA'.out.below hbq)
              rw [← HTOT.out] at hcnt
              have hfin := hb.trans (hbq.mono hb.size)
              clear HA' HCL HTOT hbq
              go_wp2_with fail
              refine hcnt.mono ?_
              rintro e w6 ⟨rfl, rfl⟩
              clear hcnt
              go_wp2_with fail
              go_ret
              exact ⟨rfl, hfin⟩
end Go.Proofs.Ytclddaacbfgnlaa
