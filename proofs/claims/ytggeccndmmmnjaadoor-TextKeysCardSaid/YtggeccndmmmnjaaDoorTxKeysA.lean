/-
  The law TextKeys at this program, by get: each key is asked for, in order. Conditions: the package variables hold what they were laid with.
-/
import Derived.Test.YtggeccndmmmnjaaDoorTxKeysK
namespace Go.Proofs.YtggeccndmmmnjaaDoor.Tx
open Go Go.RowKit Go.Lib Md

set_option maxHeartbeats 4000000 in
set_option maxRecDepth 100000 in
theorem keys_a (tk bad : Bool) (htk : tk = false) (a : Option Addr) (c : Nat) (xs : List (List UInt8)) (w : World) (hT : Texts w (.slice a xs.length c) xs) (hxl : xs.length ≤ 9223372036854775807) (hv : Nu.Vars w) :
    Calls Tryd.prog 4 #[.slice a xs.length c, .bool tk, .bool bad] w fun e w' => e = .returned (.bool true) ∧ Below w.heap.size w w' := by
  obtain ⟨i0, hi, hz0, hz1, hz2⟩ := info_parts infoString
  have hvb : ∀ W, Below w.heap.size w W → Nu.Vars W := fun W hb => hv.below hb
  subst htk
  go_enter Tryd.func4, Tryd.ntmps4
  go_wp2_with fail
  refine (shown_any _ hv).mono ?_
  rintro e w1 ⟨rfl, b1⟩
  have hA : Hid (∀ j x, xs[j]? = some x → ∃ b o, a = some ⟨b, o, none⟩ ∧ b < w.heap.size ∧ w.cell? ⟨b, o + j, none⟩ = some (.string (S x))) := by
    obtain ⟨a', c', e, _, hx⟩ := hT
    cases e
    exact hidc hx
  clear hT
  go_wp2_with fail
  go_loopw [8, 9, 10] (fun v s i wr => ∃ k : Nat, k ≤ xs.length ∧ k ≤ 7 ∧ i = .int .i64 k ∧ s = .string (S (sK false (keysOf xs k))) ∧ wr.ownsRow w.heap.size 9 1 v (keysOf xs k).length (cellsOf (keysOf xs k)) ∧ Below w.heap.size w wr) (fun _ _ i _ => xs.length - (RowKit.intOf i).toNat)
  case atStart => exact ⟨0, by omega, by omega, rfl, rfl, World.ownsRow_nil _ _ _ _, b1⟩
  case round =>
    obtain ⟨k, hk, hk5, rfl, rfl, hown, hb⟩ := hrel
    have hsz := hb.size
    have hsl : (S (sK false (keysOf xs k))).size ≤ 1761 := by rw [S_size]; exact sK_len _ keysOf_key (by have := keysOf_le xs k; omega)
    by_cases hgo : k < xs.length ∧ k < 7
    · obtain ⟨hlt, hl5⟩ := hgo
      have il5 : (k : Int) < 7 := by omega
      obtain ⟨x, hxk⟩ : ∃ x, xs[k]? = some x := ⟨_, List.getElem?_eq_getElem hlt⟩
      obtain ⟨b, o, rfl, hbl, hcell⟩ := hA.out k x hxk
      have g1 : wr.cell? ⟨b, o + k, none⟩ = some (.string (S x)) := (hb.cell (p := ⟨b, o + k, none⟩) hbl).trans hcell
      have hkey := fun W => key_any (S x) W
      rw [S_list] at hkey
      have hkl := keysOf_le xs k
      by_cases hkb : keyB x = true
      · have hxs : (S x).size ≤ 250 := by rw [S_size]; exact (keyB_parts hkb).2.1
        rw [hkb] at hkey
        have HK : Hid (keysOf xs (k + 1) = keysOf xs k ++ [x]) := hidc (keysOf_hit hxk hkb)
        have HS : Hid (S (sK false (keysOf xs (k + 1))) = S (sK false (keysOf xs k)) ++ ⟨#[32]⟩ ++ S x) := hidc (by rw [HK.out]; exact sK_more _ _ _)
        generalize hSK : S (sK false (keysOf xs k)) = SK at *
        generalize hks : keysOf xs k = ks at *
        generalize hX : S x = X at *
        clear hks hSK
        go_wp2_with fail
        refine (hkey _).mono ?_
        rintro e w3 ⟨rfl, rfl⟩
        clear hkey
        go_upto_region 10 with fail
        have g2 : ∀ w2, Below wr.heap.size wr w2 → w2.cell? ⟨b, o + k, none⟩ = some (.string X) := fun w2 h2 => (h2.cell (cell_lt g1)).trans g1
        clear hA hcell
        go_wp2_with (at_builtin; refine wpList_append_own _ rfl _ _ 25 rfl w.heap.size 9 i0 (.string ByteArray.empty) 1 16 Tryd.underlying25 hi hz0 hz1 hz2 rfl (by decide) _ _ _ rfl (hown.alloc _) ⟨wr.heap.size, 0, none⟩ 1 1 [.string X] rfl rfl ?c1 ?c2 ?c3 ?c4 ?c5 ?_)
        case c1 =>
          intro j u hj
          match j, hj with
          | 0, hj => simp at hj; subst hj; simp [Addr.add]
        case c2 => intro u hu; simp at hu; subst hu; rfl
        case c3 => unfold maxLen; omega
        case c4 => omega
        case c5 => simp; omega
        · intro v' w2 hown' hgrow _
          have hb2 := hb.trans (own_grown hown hsz hgrow)
          have g3 : w2.cell? ⟨b, o + k, none⟩ = some (.string X) := by
            have := (own_grown hown hsz hgrow).cell (p := ⟨b, o + k, none⟩) (show b < w.heap.size from hbl)
            exact this.trans g1
          have ho : w2.ownsRow w.heap.size 9 1 v' (keysOf xs (k + 1)).length (cellsOf (keysOf xs (k + 1))) := by rw [HK.out]; subst hX; simpa [cellsOf] using hown'
          clear hown' hgrow hown hb g1 g2
          go_wp2_with fail
          go_roundw
          case rel => exact ⟨k + 1, by omega, by omega, by go_num, by rw [HS.out], ho, hb2⟩
          case measure => simp [RowKit.intOf] <;> omega
      · rw [Bool.not_eq_true] at hkb
        rw [hkb] at hkey
        have HK : Hid (keysOf xs (k + 1) = keysOf xs k) := hidc (keysOf_miss hxk hkb)
        clear hA hcell
        generalize S x = X at *
        go_wp2_with fail
        refine (hkey _).mono ?_
        rintro e w3 ⟨rfl, rfl⟩
        clear hkey
        go_wp2_with fail
        go_roundw
        case rel => exact ⟨k + 1, by omega, by omega, by go_num, by rw [HK.out], by rw [HK.out]; exact hown, hb⟩
        case measure => simp [RowKit.intOf] <;> omega
    · have hkl := keysOf_le xs k
      have hkk : ∀ x ∈ keysOf xs k, keyB x = true := keysOf_key
      have hcase : (k < xs.length ∧ ¬ (k : Int) < 7) ∨ ¬ k < xs.length := by omega
      obtain ⟨av, cv, rfl, hcm, hT, -⟩ := row_facts hown
      have hl7 : (keysOf xs k).length ≤ 7 := by omega
      have hG0 : keysOf xs k = [] → Gives (S (sK false (keysOf xs k)) ++ ⟨#[10]⟩) (badQ mError 0) ((S (sK false (keysOf xs k))).size + 1) := fun h => by
        have := gives_of (parse_nokeys false) (by decide)
        rw [h, S_size, show S (sK false []) ++ ⟨#[10]⟩ = S (sK false [] ++ [10]) from by kernel_rfl]
        exact this
      have hG1 : keysOf xs k ≠ [] → Gives (S (sK false (keysOf xs k)) ++ ⟨#[10]⟩) (keysQ false (keysOf xs k)) ((S (sK false (keysOf xs k))).size + 1) := fun h => by
        have := gives_of (parse_keys false hkk hl7 h) (by rw [List.length_append]; have := sK_len false hkk hl7; simp; omega)
        rw [S_size, S_more]
        exact this
      obtain ⟨mt, hmt⟩ := parse_tab false hkk hl7
      have hG2 : Gives (S (sK false (keysOf xs k)) ++ ⟨#[32, 97, 9, 98, 10]⟩) (badQ mLine 0) mt := by
        have := gives_of hmt (by rw [List.length_append]; have := sK_len false hkk hl7; simp; omega)
        rw [S_more5]
        exact this
      have HG0 := hidc hG0
      have HG1 := hidc hG1
      have HG2 := hidc hG2
      clear hA hown hi hz0 hz1 hz2 hkl hkk hG0 hG1 hG2 hgo
      generalize S (sK false (keysOf xs k)) = SK at *
      generalize keysOf xs k = ks at *
      obtain ⟨N, hN⟩ : ∃ N, ks.length = N := ⟨_, rfl⟩
      have HT := hidc hT
      have HN := hidc hN
      have HB := hidc hb
      clear hT hb
      rw [hN] at hl7 ⊢
      clear hN
      by_cases hz : N = 0
      · have hG := HG0.out (List.eq_nil_of_length_eq_zero (by rw [HN.out]; exact hz))
        clear HG0 HG1 HG2
        have r1 : ((S mError).toList == [69, 82, 82, 79, 82]) = true := eq_yes _
        subst hz
        rcases hcase with ⟨hlt, il5⟩ | hlt
        all_goals
          go_wp2_with fail
          refine (hG _ (hvb _ HB.out)).mono ?_
          rintro e u ⟨cs, rfl, hC, b3⟩
          have HOK := hidc (rq_ok (badQ mError 0) (hvs hC))
          have HC := hidc hC
          have HU := hidc (Below.then HB.out b3)
          clear hG hC b3 HB
          go_upto_region 13 with (refine stRq rfl rfl rfl rfl rfl (alloc1 u #[.int .i64 0, .slice none 0 0, .bool false, .bool false, .string ⟨#[]⟩, .string ⟨#[]⟩, .int .i64 0, .bool false, .string ⟨#[]⟩, .slice none 0 0, .string ⟨#[]⟩] 27).1 rfl rfl HOK.out ?_; intro D hD oD; have HX := hidc (bq_laid HC.out hD oD); have HB := hidc (Below.then HU.out (laid_below oD)); clear hD oD HC HU HOK)
          have k0 : D.cell? ⟨u.heap.size, 0, none⟩ = some (.int .i64 2) := HX.out.blk.cell (i := 0) rfl
          have k4 : D.cell? ⟨u.heap.size, 4, none⟩ = some (.string (S mError)) := HX.out.blk.cell (i := 4) rfl
          clear HX
          generalize S mError = Y at *
          go_wp2_with fail
          go_ret
          exact ⟨rfl, HB.out⟩
      · have hG := HG1.out (fun e => hz (by rw [← HN.out, e]; rfl))
        clear HG0 HG1
        have hNz : ¬ (N : Int) = 0 := by omega
        have r1 : ((S mLine).toList == mLine) = true := eq_yes _
        rcases hcase with ⟨hlt, il5⟩ | hlt
        all_goals
          go_wp2_with fail
          refine (hG _ (hvb _ HB.out)).mono ?_
          rintro e u ⟨cs, rfl, hC, b3⟩
          have HOK := hidc (rq_ok (keysQ false ks) (hvs hC))
          have HC := hidc hC
          have HU := hidc (Below.then HB.out b3)
          have HT2 := hidc (HT.out.below b3)
          clear hG hC b3 HB HT
          go_upto_region 13 with (refine stRq rfl rfl rfl rfl rfl (alloc1 u #[.int .i64 0, .slice none 0 0, .bool false, .bool false, .string ⟨#[]⟩, .string ⟨#[]⟩, .int .i64 0, .bool false, .string ⟨#[]⟩, .slice none 0 0, .string ⟨#[]⟩] 27).1 rfl rfl HOK.out ?_; intro D hD oD; have HX := hidc (bq_laid HC.out hD oD); have HB := hidc (Below.then HU.out (laid_below oD)); have HT := hidc (HT2.out.below (laid_below oD)); clear hD oD HC HU HOK HT2)
          have hcms := HX.out.cms
          obtain ⟨aq, cq, rfl, -⟩ := hcms
          have hln : (keysQ false ks).cmds.length = N := by show (ks.map _).length = N; rw [List.length_map]; exact HN.out
          have k0 : D.cell? ⟨u.heap.size, 0, none⟩ = some (.int .i64 1) := HX.out.blk.cell (i := 0) rfl
          have k1 : D.cell? ⟨u.heap.size, 1, none⟩ = some (.slice aq N cq) := by have := HX.out.blk.cell (i := 1) rfl; rw [hln] at this; exact this
          have k2 : D.cell? ⟨u.heap.size, 2, none⟩ = some (.bool false) := HX.out.blk.cell (i := 2) rfl
          have k3 : D.cell? ⟨u.heap.size, 3, none⟩ = some (.bool false) := HX.out.blk.cell (i := 3) rfl
          have HCC := hidc (HX.out.cms)
          rw [hln] at HCC
          clear hln HX
          go_wp2_with fail
          go_loopw [13] (fun i wr => ∃ j : Nat, j ≤ N ∧ i = .int .i64 j ∧ Hid (Below D.heap.size D wr)) (fun i _ => N - (RowKit.intOf i).toNat)
          case atStart => exact ⟨0, Nat.zero_le _, rfl, hidc (Below.refl _ _)⟩
          case round =>
            obtain ⟨j, hj, rfl, HR⟩ := hrel
            by_cases hlt2 : j < N
            · have l1 : (j : Int) < (N : Int) := by omega
              have l0 : (0 : Int) ≤ (j : Int) := by omega
              have z1 := (HR.out.cell (cell_lt k1)).trans k1
              obtain ⟨x, hx⟩ : ∃ x, ks[j]? = some x := ⟨_, List.getElem?_eq_getElem (by rw [HN.out]; exact hlt2)⟩
              have hxm : (keysQ false ks).cmds[j]? = some (withKey (command 1) x) := by show (ks.map (withKey (command 1)))[j]? = _; rw [List.getElem?_map, hx]; rfl
              obtain ⟨bb, oo, rfl, hc1⟩ := cms_at (HCC.out.below HR.out) hxm
              obtain ⟨b2, o2, rfl, -, hs2⟩ : ∃ b o, av = some ⟨b, o, none⟩ ∧ b < wr.heap.size ∧ wr.cell? ⟨b, o + j, none⟩ = some (.string (S x)) := by
                obtain ⟨a', c', e, -, hxx⟩ := HT.out.below HR.out
                injection e with e1
                subst e1
                exact hxx j x hx
              have hq : ∀ W, (binOp .neq 35 (.agg #[.int .i64 1, .int .i64 0, .string (S x), .string ⟨#[]⟩, .int .u32 0, .int .i64 0, .bool false, .int .u64 0, .bool false, .int .u64 0, .int .u64 0, .bool false, .bool false, .int .i64 0, .int .i64 (-1), .bool false]) (.agg #[.int .i64 1, .int .i64 0, .string (S x), .string ⟨#[]⟩, .int .u32 0, .int .i64 0, .bool false, .int .u64 0, .bool false, .int .u64 0, .int .u64 0, .bool false, .bool false, .int .i64 0, .int .i64 (-1), .bool false])).run Tryd.prog W = .ok (.bool false) W := fun W => cm_neq (withKey (command 1) x) W
              have d0 : wr.cell? ⟨bb, oo + j * 16 + 0, none⟩ = some (.int .i64 1) := hc1 0 _ rfl
              have d1 : wr.cell? ⟨bb, oo + j * 16 + 1, none⟩ = some (.int .i64 0) := hc1 1 _ rfl
              have d2 : wr.cell? ⟨bb, oo + j * 16 + 2, none⟩ = some (.string (S x)) := hc1 2 _ rfl
              have d3 : wr.cell? ⟨bb, oo + j * 16 + 3, none⟩ = some (.string ⟨#[]⟩) := hc1 3 _ rfl
              have d4 : wr.cell? ⟨bb, oo + j * 16 + 4, none⟩ = some (.int .u32 0) := hc1 4 _ rfl
              have d5 : wr.cell? ⟨bb, oo + j * 16 + 5, none⟩ = some (.int .i64 0) := hc1 5 _ rfl
              have d6 : wr.cell? ⟨bb, oo + j * 16 + 6, none⟩ = some (.bool false) := hc1 6 _ rfl
              have d7 : wr.cell? ⟨bb, oo + j * 16 + 7, none⟩ = some (.int .u64 0) := hc1 7 _ rfl
              have d8 : wr.cell? ⟨bb, oo + j * 16 + 8, none⟩ = some (.bool false) := hc1 8 _ rfl
              have d9 : wr.cell? ⟨bb, oo + j * 16 + 9, none⟩ = some (.int .u64 0) := hc1 9 _ rfl
              have d10 : wr.cell? ⟨bb, oo + j * 16 + 10, none⟩ = some (.int .u64 0) := hc1 10 _ rfl
              have d11 : wr.cell? ⟨bb, oo + j * 16 + 11, none⟩ = some (.bool false) := hc1 11 _ rfl
              have d12 : wr.cell? ⟨bb, oo + j * 16 + 12, none⟩ = some (.bool false) := hc1 12 _ rfl
              have d13 : wr.cell? ⟨bb, oo + j * 16 + 13, none⟩ = some (.int .i64 0) := hc1 13 _ rfl
              have d14 : wr.cell? ⟨bb, oo + j * 16 + 14, none⟩ = some (.int .i64 (-1)) := hc1 14 _ rfl
              have d15 : wr.cell? ⟨bb, oo + j * 16 + 15, none⟩ = some (.bool false) := hc1 15 _ rfl
              rw [Nat.add_zero] at d0
              clear hc1 hxm hx
              have HK := hidc (And.intro k0 (And.intro k1 (And.intro k2 k3)))
              clear k0 k1 k2 k3
              generalize S x = X at *
              go_wp2_with fail
              go_quiet (fail)
              go_wp2_with fail
              go_roundw
              case rel => exact ⟨j + 1, by omega, by first | rfl | go_num, hidc (Below.then HR.out (bdrew _ _))⟩
              case measure => simp [RowKit.intOf] <;> omega
            · have l2 : decide ((j : Int) < (N : Int)) = false := decide_eq_false (by omega)
              have l3 : ¬ (j : Int) < (N : Int) := by omega
              have HBR := hidc (Below.then HB.out HR.out)
              clear HCC HT HR HB k0 k1 k2 k3
              cases bad
              · go_wp2_with fail
                go_ret
                exact ⟨rfl, HBR.out⟩
              · go_wp2_with fail
                refine (HG2.out _ (hvb _ HBR.out)).mono ?_
                rintro e u2 ⟨cs2, rfl, hC, b3⟩
                have HOK := hidc (rq_ok (badQ mLine 0) (hvs hC))
                have HC := hidc hC
                have HU := hidc (Below.then HBR.out b3)
                clear hC b3 HBR HG2
                go_upto_region 24 with (refine stRq rfl rfl rfl rfl rfl (alloc1 u2 #[.int .i64 0, .slice none 0 0, .bool false, .bool false, .string ⟨#[]⟩, .string ⟨#[]⟩, .int .i64 0, .bool false, .string ⟨#[]⟩, .slice none 0 0, .string ⟨#[]⟩] 27).1 rfl rfl HOK.out ?_; intro D2 hD oD; have HX := hidc (bq_laid HC.out hD oD); have HB := hidc (Below.then HU.out (laid_below oD)); clear hD oD HC HU HOK)
                have m0 : D2.cell? ⟨u2.heap.size, 0, none⟩ = some (.int .i64 2) := HX.out.blk.cell (i := 0) rfl
                have m4 : D2.cell? ⟨u2.heap.size, 4, none⟩ = some (.string (S mLine)) := HX.out.blk.cell (i := 4) rfl
                clear HX
                generalize S mLine = Y at *
                go_wp2_with fail
                go_ret
                exact ⟨rfl, HB.out⟩
end Go.Proofs.YtggeccndmmmnjaaDoor.Tx
