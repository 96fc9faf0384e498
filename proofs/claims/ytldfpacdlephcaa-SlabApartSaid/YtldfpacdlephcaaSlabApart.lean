/-
  The law SlabApart at this program. No conditions but that the numbers are an int's.
-/
import Derived.Test.YtldfpacdlephcaaSlabApartKitB
import Derived.Deep.DeepCutAuto
import Derived.IntWalk
namespace Go.Proofs.Ytldfpacdlephcaa
open Go Go.RowKit Go.Lib

/-- A number that is made not negative. -/
theorem fold_to (p : Int) (p0 : -9223372036854775808 ≤ p) (p1 : p ≤ 9223372036854775807) (c : Nat) (hc : 0 < c) : ∃ (x : Int) (r : Nat), ((p < 0 ∧ x = -(p + 1)) ∨ (¬ p < 0 ∧ x = p)) ∧ 0 ≤ x ∧ x ≤ 9223372036854775807 ∧ r < c ∧ x % (c : Int) = (r : Int) := by
  have hc' : (0 : Int) < (c : Int) := by omega
  by_cases h : p < 0
  · have h1 := Int.emod_nonneg (-(p + 1)) (show (c : Int) ≠ 0 by omega)
    have h2 := Int.emod_lt_of_pos (-(p + 1)) hc'
    exact ⟨-(p + 1), (-(p + 1) % (c : Int)).toNat, .inl ⟨h, rfl⟩, by omega, by omega, by omega, by omega⟩
  · have h1 := Int.emod_nonneg p (show (c : Int) ≠ 0 by omega)
    have h2 := Int.emod_lt_of_pos p hc'
    exact ⟨p, (p % (c : Int)).toNat, .inr ⟨h, rfl⟩, by omega, by omega, by omega, by omega⟩

set_option maxHeartbeats 4000000 in
set_option maxRecDepth 100000 in
theorem apart_law (p : Int) (p0 : -9223372036854775808 ≤ p) (p1 : p ≤ 9223372036854775807) (z : Int) (z0 : -9223372036854775808 ≤ z) (z1 : z ≤ 9223372036854775807) (a : Option Addr) (m c : Nat) (zs : List Int) (hm : zs.length = m) (hzr : ∀ z ∈ zs, -9223372036854775808 ≤ z ∧ z ≤ 9223372036854775807) (hml : m ≤ 9223372036854775807) (w : World) (hZ : Sz.Ints w (.slice a m c) zs) :
    Calls Try.prog 4 #[.int .i64 p, .int .i64 z, .slice a m c] w fun e w' => e = .returned (.bool true) ∧ Below w.heap.size w w' := by
  have HZ : Hid (∀ (j : Nat) z, zs[j]? = some z → ∃ b o, a = some ⟨b, o, none⟩ ∧ b < w.heap.size ∧ w.cell? ⟨b, o + j, none⟩ = some (.int .i64 z)) := by
    obtain ⟨a', c', e, hx⟩ := hZ
    cases e
    exact hid hx
  have HM := hid hm
  obtain ⟨i0, hi0, hz0, hz1, hz2⟩ := info_parts infoInt
  obtain ⟨j0, hj0, jz0, jz1, jz2⟩ := info_parts infoByte
  have HZR := hid hzr
  obtain ⟨x, r, hp, x0, x1, hr, xr⟩ := fold_to p p0 p1 4 (by decide)
  obtain ⟨y, t, hz, y0, y1, ht, yt⟩ := fold_to z z0 z1 296 (by decide)
  have xr : x % 4 = (r : Int) := xr
  have yt : y % 296 = (t : Int) := yt
  obtain ⟨Pg, hPg⟩ : ∃ Pg, Pg = 512 + r * 512 := ⟨_, rfl⟩
  obtain ⟨F, hF⟩ : ∃ F, F = 105 + t := ⟨_, rfl⟩
  have eP : 512 + (r : Int) * 512 = (Pg : Int) := by omega
  have eF : 105 + (t : Int) = (F : Int) := by omega
  have g1 : 512 ≤ Pg := by omega
  have g2 : Pg ≤ 2048 := by omega
  have g8 : Pg % 8 = 0 := by omega
  have href := fun w => Sz.ref_new_ok Pg F g1 (by omega) g8 (by omega) (by omega) w
  have hnew := fun w => new3 Pg g1 (by omega) (by unfold pageB; rw [decide_eq_true_iff]; omega) w
  have HS : Hid (sizesB (Sz.ints (Sz.row Pg F)) (Pg : Int) = true) := hid (sizes_row g1 g8)
  have HL := hid (And.intro (Sz.row_first (f := F) g1).2 (Sz.row_len Pg F))
  clear hPg hF g8 hZ hm hzr
  go_enter Try.func4, Try.ntmps4
  go_wp2_with fail
  refine (shown_any _).mono ?_
  rintro e' w1 ⟨rfl, b1⟩
  go_upto_if 36 with fail
  go_cut [0] from 35 to 39 (fun a wx => wx = w1 ∧ a = .int .i64 x)
  case first =>
    clear href hnew xr yt eP eF
    rcases hp with ⟨t0, rfl⟩ | ⟨t0, rfl⟩
    all_goals
      go_wp2_with fail
      go_meet
      exact ⟨rfl, by go_num⟩
  case rest =>
  obtain ⟨rfl, rfl⟩ := hcut
  go_upto_if 41 with fail
  go_cut [1] from 40 to 44 (fun b wx => wx = wc ∧ b = .int .i64 y)
  case first =>
    clear href hnew xr yt eP eF
    rcases hz with ⟨t0, rfl⟩ | ⟨t0, rfl⟩
    all_goals
      go_wp2_with fail
      go_meet
      exact ⟨rfl, by go_num⟩
  case rest =>
  obtain ⟨rfl, rfl⟩ := hcut
  clear hp hz p0 p1 z0 z1
  go_wp2_with fail
  refine (href _).mono ?_
  rintro e' W ⟨v, rfl, hown, b2⟩
  obtain ⟨R, hR⟩ : ∃ R, R = Sz.row Pg F := ⟨_, rfl⟩
  rw [← hR] at hown HS HL
  obtain ⟨n, hn⟩ : ∃ n, n = R.length := ⟨_, rfl⟩
  rw [← hn] at hown HL
  obtain ⟨x0', hx0'⟩ : ∃ x0', R[0]? = some x0' := ⟨_, List.getElem?_eq_getElem (by have := HL.out; omega)⟩
  have hown' : W.ownsRow wc.heap.size 3 1 v R.length (nc R) := by rw [← hn]; exact hown
  obtain ⟨g, cS, rfl, -, -, -⟩ := own_cell hown' hx0'
  have HC : Hid (∀ (i x : Nat), R[i]? = some x → g < W.heap.size ∧ W.cell? ⟨g, i, none⟩ = some (.int .i64 (x : Int))) := hid (fun i x hx => by
    obtain ⟨g', c', e, _, h1, _⟩ := own_cell hown' hx
    cases e
    exact ⟨cell_lt h1, h1⟩)
  have hI : Sz.Ints W (.slice (some ⟨g, 0, none⟩) n cS) (Sz.ints R) := by
    have := Sz.ints_of_row hown'
    rw [← hn] at this
    exact this
  have HN := hid (And.intro hn hR)
  have HBW := hid (Below.then b1 b2)
  rw [← hn]
  clear hown hown' hx0' href b1 b2 hn hR
  go_wp2_with fail
  refine (hnew _).mono ?_
  rintro e' w3 ⟨A, O, B, rfl, hA, b3, hA1, hO1, hB1⟩
  have hs := new_slab hA (cnt_new 3 Pg) ⟨g, 0, none⟩ cS n (Sz.ints R) (by rw [Sz.ints_len, ← HN.out.1]) (hI.below b3) HS.out (by have := HL.out; omega) HL.out.2
  have HB3 := hid (And.intro b3 (And.intro hA1 (And.intro hO1 hB1)))
  clear hnew hA b3 hA1 hO1 hB1 hI HS
  go_wp2_with fail
  refine hs.mono ?_
  rintro e' w4 ⟨P, rfl, hM⟩
  have HX0 : Hid (HasX W P (newSl (newSt 3 Pg) R) (fun b => (Value.slice none 0 0).ownBlock = some b ∨ (Value.slice none 0 0).ownBlock = some b) w4) := by
    have h1 := made_x hM HB3.out.1 HB3.out.2.1 HB3.out.2.2.1 HB3.out.2.2.2
    rw [HN.out.2, row_back] at h1
    rw [← HN.out.2] at h1
    exact hid (h1.with (fun b hb => by rcases hb with hb | hb <;> simp [Value.ownBlock] at hb))
  clear hs hM HB3
  obtain ⟨n1, n2⟩ := HL.out
  clear x0 x1 hr xr yt y0 y1 ht eP eF g2
  go_wp2_with fail
  go_loopw [14, 15, 16] (fun vh vm i wr => ∃ (k : Nat) (held : List Nat) (marks : List UInt8) (s : Sl), k ≤ 100 ∧ i = .int .i64 k ∧ held.length ≤ k ∧ Hid (Hm held marks s) ∧ Hid (s.sz = R) ∧ Hid (HasX W P s (fun b => vh.ownBlock = some b ∨ vm.ownBlock = some b) wr) ∧ Hid (wr.ownsRow W.heap.size 3 1 vh held.length (nc held)) ∧ Hid (wr.ownsRow W.heap.size 5 1 vm held.length (bc marks))) (fun _ _ i _ => 100 - (intOf i).toNat)
  case atStart => exact ⟨0, [], [], _, by omega, rfl, Nat.le_refl _, hid (Hm.nil HX0.out.1), hid rfl, HX0, hid (World.ownsRow_nil _ _ _ _), hid (World.ownsRow_nil _ _ _ _)⟩
  case round =>
    obtain ⟨k, held, marks, s, hk, rfl, hhk, HH, HZs, HX, HoH, HoM⟩ := hrel
    clear HX0
    obtain ⟨vha, vhc, rfl⟩ := row_form HoH.out
    obtain ⟨vma, vmc, rfl⟩ := row_form HoM.out
    by_cases hgo : k < m ∧ k < 100
    · obtain ⟨i1, i2⟩ : (k : Int) < (m : Int) ∧ (k : Int) < 100 := by omega
      obtain ⟨z, hz⟩ : ∃ z, zs[k]? = some z := ⟨_, List.getElem?_eq_getElem (by rw [HM.out]; omega)⟩
      obtain ⟨bz, oz, rfl, lz, cz⟩ := HZ.out k z hz
      have cz' : wr.cell? ⟨bz, oz + k, none⟩ = some (.int .i64 z) := ((Below.then HBW.out HX.out.2.1).cell (p := ⟨bz, oz + k, none⟩) lz).trans cz
      obtain ⟨z0, z1⟩ := HZR.out z (List.mem_of_getElem? hz)
      clear HZ HZR HM hz cz lz
      have hL100 : held.length ≤ 100 := by omega
      have hlenM := HH.out.len
      by_cases hfree : z < 0 ∧ 0 < held.length
      · obtain ⟨j1, j2⟩ : z < 0 ∧ (0 : Int) < (held.length : Int) := by omega
        obtain ⟨q, hq, hzq⟩ := fold_mod z held.length
        have hq := hq hfree.2
        have eq1 : (z + 1).tmod (held.length : Int) = -(q : Int) := by
          rcases hzq with ⟨_, e⟩ | ⟨h, _⟩
          · exact e
          · exact absurd j1 h
        obtain ⟨x, hx⟩ : ∃ x, held[q]? = some x := ⟨_, List.getElem?_eq_getElem hq⟩
        obtain ⟨gh, c2, e, hcap, hcx, _⟩ := own_cell HoH.out hx
        cases e
        have hgh := cell_lt hcx
        have iq : (q : Int) < (held.length : Int) := by omega
        have hxu := HH.out.us x (List.mem_of_getElem? hx)
        have hxl : x < 4194304 := by
          obtain ⟨kk, hkk, _⟩ := Sl.usedN_true hxu
          have := HH.out.ok.cut_1024 hkk
          omega
        obtain ⟨f1, hT⟩ := Sl.free_said hxu
        have hokf := HH.out.ok.freeOk (x : Int)
        have HH' := hid (HH.out.less hokf hx hT)
        have HZs' : Hid ((s.free (x : Int)).2.sz = R) := hid (hT.sz.trans HZs.out)
        have hf := hasX_free HX.out (fun b hb => hb.elim (own_lt HoH.out b) (own_lt HoM.out b)) (x : Int) (by omega)
        rw [f1] at hf
        have f2 : (s.free (x : Int)).2.free (x : Int) = (8, (s.free (x : Int)).2) := Sl.free_no (by rw [Sl.usedB_nat, hT.us, if_pos rfl])
        have F2 := hid f2
        clear hzq HH HZs hT hokf f1 f2 hx
        go_wp2_with fail
        refine hf.mono ?_
        rintro e' w5 ⟨rfl, hX5, ho5⟩
        have HoH5 := hid (own_only HoH.out ho5 (fun _ hb hn => hn (.inl hb)))
        have HoM5 := hid (own_only HoM.out ho5 (fun _ hb hn => hn (.inr hb)))
        have hcx5 := (ho5.cell (p := ⟨gh, q, none⟩) hgh (fun hn => hn (.inl rfl))).trans hcx
        have hf2 := hasX_free hX5 (fun b hb => hb.elim (own_lt HoH5.out b) (own_lt HoM5.out b)) (x : Int) (by omega)
        rw [F2.out] at hf2
        clear hf hX5 ho5 HoH HoM hcx hgh F2 HX
        go_wp2_with fail
        refine hf2.mono ?_
        rintro e' w6 ⟨rfl, hX6, ho6⟩
        have HoH6 := hid (own_only HoH5.out ho6 (fun _ hb hn => hn (.inl hb)))
        have HoM6 := hid (own_only HoM5.out ho6 (fun _ hb hn => hn (.inr hb)))
        have HX6 := hid hX6
        clear hf2 hX6 ho6 HoH5 HoM5 hcx5
        have ic1 : (q : Int) + 1 ≤ (held.length : Int) := by omega
        have ic2 : (q : Int) ≤ (vhc : Int) := by omega
        have ic3 : (held.length : Int) ≤ (vhc : Int) := by omega
        go_wp2_with fail
        have iw1 : IntKind.i64.wrap ((q : Int) + 1) = (q : Int) + 1 := IntWalk.i64_in _ (by omega)
        have iw2 : (0 : Int) ≤ (q : Int) + 1 := by omega
        have iw3 : ((q : Int) + 1).toNat = q + 1 := by omega
        have iw4 : (q : Int) + 1 ≤ (vhc : Int) := by omega
        have hS1 := part_src (w' := (w6.alloc (.cells #[] 3)).drew) (n := 0) (a := 0) (m := q) HoH6.out (fun i => Below.cell (Below.alloc (Below.refl w6.heap.size w6) (Nat.le_refl _) _) (p := ⟨gh, i, none⟩) (own_lt HoH6.out gh rfl)) rfl
        rw [List.drop_zero] at hS1
        have hb6 := HX6.out.2.1.size
        have hl1 : (nc (held.take q)).length = q * 1 := by unfold nc; rw [List.length_map, List.length_take]; omega
        have hgh6 := own_lt HoH6.out gh rfl
        have hl2 : (nc ((held.drop (q + 1)).take (held.length - (q + 1)))).length = (held.length - (q + 1)) * 1 := by unfold nc; rw [List.length_map, List.length_take, List.length_drop]; omega
        have hnil : vhc = q + 1 → nc ((held.drop (q + 1)).take (held.length - (q + 1))) = [] := fun e => List.eq_nil_of_length_eq_zero (by rw [hl2]; omega)
        go_region_held3 (fun _ => True) (trivial) (first
          | (refine step_append_more _ (by rfl) _ _ _ (by rfl) W.heap.size 3 i0 _ 1 8 Try.underlying22 hi0 hz0 hz1 hz2 rfl (by omega) (.slice (some ⟨w6.heap.size, 0, none⟩) 0 0) 0 [] (by rfl) ((own_none w6 W.heap.size 3 hb6).drew) ⟨gh, 0, none⟩ q vhc (nc (held.take q)) (by rfl) hl1 hS1 (nc_one _) (by unfold maxLen; omega) (by omega) (by simp; omega) q (Nat.zero_add q) ?_; intro v1 w7 hown7 hg7 hat7; have hS2 := at_if (c := vhc = q + 1) (part_src (w' := w7) (n := q + 1) (a := q + 1) (m := held.length - (q + 1)) HoH6.out (one_cell_far hg7 hgh6) rfl) hnil; have hb7 := hg7.size; obtain ⟨a7, c7, rfl⟩ := row_form hown7)
          | (refine step_append_more _ (by rfl) _ _ _ (by rfl) W.heap.size 3 i0 _ 1 8 Try.underlying22 hi0 hz0 hz1 hz2 rfl (by omega) (.slice a7 q c7) q ([] ++ nc (held.take q)) (by rfl) hown7 (if vhc = q + 1 then ⟨gh, 0, none⟩ else ⟨gh, q + 1, none⟩) (held.length - (q + 1)) (vhc - (q + 1)) (nc ((held.drop (q + 1)).take (held.length - (q + 1)))) (by show Value.slice (if vhc = q + 1 then some ⟨gh, 0, none⟩ else some ⟨gh, q + 1, none⟩) (held.length - (q + 1)) (vhc - (q + 1)) = _; split <;> rfl) hl2 hS2 (nc_one _) (by unfold maxLen; omega) (by omega) (by simp at hb7; omega) (q + (held.length - (q + 1))) rfl ?_; intro v2 w8 hown8 hg8 hat8; have hcut := cut_two hg7 hat7 hg8 hat8; have hrow8 := cut_row hq hown8; obtain ⟨a8, c8, rfl⟩ := row_form hown8)
          | (trace_state; fail))
        generalize (if vhc = q + 1 then some (⟨gh, 0, none⟩ : Addr) else some ⟨gh, q + 1, none⟩) = ad137
        generalize q + (held.length - (q + 1)) = N8 at *
        obtain ⟨hB8, hn8⟩ := hcut
        have HoH8 := hid hrow8
        have HoM8 := hid (own_only HoM6.out (Below.only hB8) (fun _ _ hn => hn))
        have hoM : w8.ownsRow W.heap.size 5 1 (.slice vma marks.length vmc) marks.length (bc marks) := by rw [hlenM]; exact HoM8.out
        obtain ⟨gm, e, mcap, hgm8⟩ := own_form hoM (by omega)
        cases e
        rw [← hlenM]
        have hqm : q < marks.length := by omega
        have im1 : (q : Int) + 1 ≤ (marks.length : Int) := by omega
        have im2 : (q : Int) ≤ (vmc : Int) := by omega
        have im3 : (marks.length : Int) ≤ (vmc : Int) := by omega
        have im4 : (q : Int) + 1 ≤ (vmc : Int) := by omega
        have mS1 := part_bytes (w' := (w8.alloc (.cells #[] 5)).drew) (n := 0) (a := 0) (m := q) hoM (fun i => Below.cell (Below.alloc (Below.refl w8.heap.size w8) (Nat.le_refl _) _) (p := ⟨gm, i, none⟩) hgm8) rfl
        rw [List.drop_zero] at mS1
        have hb8 := Nat.le_trans hb6 hB8.size
        have ml1 : (bc (marks.take q)).length = q * 1 := by rw [bc_len, List.length_take]; omega
        have ml2 : (bc ((marks.drop (q + 1)).take (marks.length - (q + 1)))).length = (marks.length - (q + 1)) * 1 := by rw [bc_len, List.length_take, List.length_drop]; omega
        have mnil : vmc = q + 1 → bc ((marks.drop (q + 1)).take (marks.length - (q + 1))) = [] := fun e => List.eq_nil_of_length_eq_zero (by rw [ml2]; omega)
        have HLM := hid hlenM
        have hm100 : marks.length ≤ 100 := by omega
        clear ic1 ic2 ic3 iw4 hS1 hl1 hl2 hnil hrow8 HoM6 HoM8 hlenM
        go_wp2_with fail
        go_region_held3 (fun _ => True) (trivial) (first
          | (refine step_append_more _ (by rfl) _ _ _ (by rfl) W.heap.size 5 j0 _ 1 1 Try.underlying39 hj0 jz0 jz1 jz2 rfl (by omega) (.slice (some ⟨w8.heap.size, 0, none⟩) 0 0) 0 [] (by rfl) ((own_none w8 W.heap.size 5 hb8).drew) ⟨gm, 0, none⟩ q vmc (bc (marks.take q)) (by rfl) ml1 mS1 (bc_ok _) (by unfold maxLen; omega) (by omega) (by simp; omega) q (Nat.zero_add q) ?_; intro v3 w9 hown9 hg9 hat9; have mS2 := at_if (c := vmc = q + 1) (part_bytes (w' := w9) (n := q + 1) (a := q + 1) (m := marks.length - (q + 1)) hoM (one_cell_far hg9 hgm8) rfl) mnil; have hb9 := hg9.size; obtain ⟨a9, c9, rfl⟩ := row_form hown9)
          | (refine step_append_more _ (by rfl) _ _ _ (by rfl) W.heap.size 5 j0 _ 1 1 Try.underlying39 hj0 jz0 jz1 jz2 rfl (by omega) (.slice a9 q c9) q ([] ++ bc (marks.take q)) (by rfl) hown9 (if vmc = q + 1 then ⟨gm, 0, none⟩ else ⟨gm, q + 1, none⟩) (marks.length - (q + 1)) (vmc - (q + 1)) (bc ((marks.drop (q + 1)).take (marks.length - (q + 1)))) (by show Value.slice (if vmc = q + 1 then some ⟨gm, 0, none⟩ else some ⟨gm, q + 1, none⟩) (marks.length - (q + 1)) (vmc - (q + 1)) = _; split <;> rfl) ml2 mS2 (bc_ok _) (by unfold maxLen; omega) (by omega) (by simp at hb9; omega) (q + (marks.length - (q + 1))) rfl ?_; intro v4 w10 hown10 hg10 hat10; have hcutm := cut_two hg9 hat9 hg10 hat10; have hrow10 := cut_bytes hqm hown10; obtain ⟨a10, c10, rfl⟩ := row_form hown10)
          | fail)
        generalize (if vmc = q + 1 then some (⟨gm, 0, none⟩ : Addr) else some ⟨gm, q + 1, none⟩) = ad147
        obtain ⟨hB10, hn10⟩ := hcutm
        have hlc : (cutAt marks q).length = (cutAt held q).length := by rw [cutAt_len hqm, cutAt_len hq, HLM.out]
        have hlc2 : (cutAt held q).length ≤ k + 1 := by rw [cutAt_len hq]; omega
        have HoM10 := hid (hlc ▸ hrow10)
        have HoH10 := hid (own_only HoH8.out (D := fun _ => False) (Below.only hB10) (fun _ _ hn => hn))
        have hBB := Below.then hB8 hB10
        have hs8 := hB8.size
        have HX10 := hid (HX6.out.turn (G' := fun b => (Value.slice a8 N8 c8).ownBlock = some b ∨ (Value.slice a10 (q + (marks.length - (q + 1))) c10).ownBlock = some b) (D := fun _ => False) (Below.only hBB) (fun _ h => h.elim) (fun b hb => .inr (hb.elim (hn8 b) (fun h => Nat.le_trans hs8 (hn10 b h)))) (fun _ h => h.elim))
        clear hrow10 hoM mS1 ml1 ml2 mnil hn8 hn10 hB8 hB10 hBB HX6 HoH6 HoH8 im1 im2 im3 im4
        go_wp2_with fail
        go_roundw
        case rel => exact ⟨k + 1, cutAt held q, cutAt marks q, _, by omega, by go_num, hlc2, HH', HZs', HX10, HoH10, HoM10⟩
        case measure => simp [intOf] <;> omega
      · have HLM := hid hlenM
        obtain ⟨x', t', hp', x0', -, ht', xt⟩ := fold_to z z0 z1 n (by omega)
        have hcase : (z < 0 ∧ ¬ (0 : Int) < (held.length : Int)) ∨ ¬ z < 0 := by omega
        have HXT := hid xt
        clear hlenM hfree xt
        go_upto_region 19 with fail
        go_cut [106] from 86 to 222 (fun b wx => wx = wr ∧ b = .bool false)
        case first =>
          rcases hcase with ⟨d1, d2⟩ | d1
          all_goals
            go_wp2_with fail
            go_meet
            exact ⟨rfl, by first | rfl | exact congrArg Value.bool (decide_eq_false (by omega))⟩
        case rest =>
        obtain ⟨rfl, rfl⟩ := hcut
        clear hcase
        go_upto_if 150 with fail
        go_cut [17] from 86 to 222 (fun v wx => wx = wc ∧ v = .int .i64 x')
        case first =>
          rcases hp' with ⟨d1, rfl⟩ | ⟨d1, rfl⟩
          all_goals
            go_wp2_with fail
            go_meet
            exact ⟨rfl, by go_num⟩
        case rest =>
        obtain ⟨rfl, rfl⟩ := hcut
        clear hp' z0 z1
        have hG := fun b (hb : (Value.slice vha held.length vhc).ownBlock = some b ∨ (Value.slice vma held.length vmc).ownBlock = some b) => hb.elim (own_lt HoH.out b) (own_lt HoM.out b)
        have hc := hasX_alloc HX.out hG (t' : Int)
        have hts : t' < s.sz.length := by rw [HZs.out, ← HN.out.1]; exact ht'
        have xt := HXT.out
        rcases HH.out.ok.alloc_said hts with e | ⟨x, s', e, hxf, hTr, hzc⟩
        · rw [e] at hc
          dsimp only at hc
          clear e hts HX hG HXT
          go_wp2_with fail
          refine hc.mono ?_
          rintro e' w5 ⟨rfl, hX5, ho5⟩
          have HoH5 := hid (own_only HoH.out ho5 (fun _ hb hn => hn (.inl hb)))
          have HoM5 := hid (own_only HoM.out ho5 (fun _ hb hn => hn (.inr hb)))
          have HX5 := hid hX5
          clear hc hX5 ho5 HoH HoM xt
          go_wp2_with fail
          go_roundw
          case rel => exact ⟨k + 1, held, marks, s, by omega, by go_num, by omega, HH, HZs, HX5, HoH5, HoM5⟩
          case measure => simp [intOf] <;> omega
        · rw [e] at hc
          dsimp only at hc
          have hxu : s'.usedN x = true := by rw [hTr.us, if_pos rfl]
          obtain ⟨hz3, hZ1, hZ2⟩ := HH.out.ok.size hts
          obtain ⟨Z, hZ⟩ : ∃ Z, Z = s.size t' := ⟨_, rfl⟩
          rw [← hZ] at hzc hz3 hZ1 hZ2
          have hZ3 : Z ≤ 65536 := Nat.le_trans hZ2 HH.out.ok.ao.s2
          obtain ⟨hgW, hcW⟩ := HC.out t' Z (by rw [← HZs.out]; exact hz3)
          have HCW := hid (And.intro hgW hcW)
          have hsz' : s'.sz = R := hTr.sz.trans HZs.out
          have HSZ := hid hsz'
          have HHX := hid (And.intro hxf (And.intro hTr hxu))
          have HZC := hid hzc
          clear e hts HX hG hZ hz3 hZ2 hgW hcW hsz' hxf hTr hzc hxu
          go_wp2_with fail
          refine hc.mono ?_
          rintro e' w5 ⟨rfl, hX5, ho5⟩
          have HoH5 := hid (own_only HoH.out ho5 (fun _ hb hn => hn (.inl hb)))
          have HoM5 := hid (own_only HoM.out ho5 (fun _ hb hn => hn (.inr hb)))
          have HX5 := hid hX5
          obtain ⟨hxn, hxu, hmore⟩ := HH.out.more (m := UInt8.ofNat k) hX5.1 HHX.out.1 HHX.out.2.1
          rw [HZC.out] at hmore
          have HMORE := hid hmore
          have HXN := hid hxn
          have HXU := hid hxu
          have hxl : x < 4194304 := by
            obtain ⟨kk, hkk, _⟩ := Sl.usedN_true hxu
            have := hX5.1.cut_1024 hkk
            omega
          clear hc hX5 ho5 HoH HoM xt hxn hxu hmore HHX HH HZs
          have hk256 : k < 256 := by omega
          go_wp2_with fail
          go_loopw [21] (fun j wr' => ∃ q : Nat, q ≤ held.length ∧ j = .int .i64 q ∧ w5 = wr') (fun j _ => held.length - (intOf j).toNat)
          case atStart => exact ⟨0, Nat.zero_le _, rfl, rfl⟩
          case round =>
            obtain ⟨q, hq, rfl, rfl⟩ := hrel
            by_cases hql : q < held.length
            · have iq : (q : Int) < (held.length : Int) := by omega
              obtain ⟨y, hy⟩ : ∃ y, held[q]? = some y := ⟨_, List.getElem?_eq_getElem hql⟩
              obtain ⟨gh, c2, e, hcap, hcy, _⟩ := own_cell HoH5.out hy
              cases e
              have hyx : y ≠ x := fun e => HXN.out (by rw [← e]; exact List.mem_of_getElem? hy)
              have hyx' : ((y : Int) == (x : Int)) = false := by rw [beq_eq_false_iff_ne]; omega
              clear hy hyx
              go_wp2_with fail
              go_roundw
              case rel => exact ⟨q + 1, by omega, by go_num, trivial⟩
              case measure => simp [intOf] <;> omega
            · obtain rfl : q = held.length := by omega
              have hw := has_where HX5.out.has (x : Int) (by omega)
              rw [wher_z HXU.out, HZC.out] at hw
              generalize x / 4096 = xp at hw
              generalize x % 4096 * Z = xa at hw
              dsimp only at hw
              go_wp2_with fail
              refine hw.mono ?_
              rintro e' w6 ⟨rfl, md, hw6⟩
              have hB6 : Below w5.heap.size w5 w6 := by rw [hw6]; exact ⟨rfl, rfl, rfl, Nat.le_refl _, fun _ _ => rfl⟩
              have HB6 := hid hB6
              clear hw hw6 hB6 hql hq
              have hwk : IntKind.u8.wrap (k : Int) = (k : Int) := by rw [IntKind.wrap_u8]; omega
              go_wp2_with (at_make; refine wpList_make_full _ rfl _ _ 39 rfl w6.heap.size 5 j0 (.int .u8 0) 1 Try.underlying39 hj0 jz0 jz1 .i64 .i64 _ _ Z rfl rfl (by omega) (by omega) (by rw [jz2]; omega) (by unfold maxLen; omega) (Nat.le_refl _) ?_)
              intro w7 hown7 hgrow7
              rw [bf_made k] at hown7
              have HB7 := hid (blk_of_full hown7)
              have HBel7 := hid (below_of_grown hgrow7)
              clear hown7 hgrow7
              go_wp2_with fail
              go_loopw [26] (fun i wr' => ∃ q : Nat, q ≤ Z ∧ i = .int .i64 q ∧ Hid (Blk wr' w6.heap.size 5 (bf k Z q)) ∧ Hid (Only (fun b => b = w6.heap.size) w7 wr')) (fun i _ => Z - (intOf i).toNat)
              case atStart => exact ⟨0, Nat.zero_le _, rfl, HB7, hid (Only.refl _ _)⟩
              case round =>
                obtain ⟨q, hq, rfl, HB, HO⟩ := hrel
                clear HB7
                by_cases hqZ : q < Z
                · have iq : (q : Int) < (Z : Int) := by omega
                  have hcq := HB.out.cell (bf_at hqZ)
                  have hfq := HB.out.frozen q
                  have hb' := HB.out.set q (.int .u8 (k : Int))
                  rw [bf_set hqZ] at hb'
                  have HB' := hid hb'
                  have HO' := hid (HO.out.setCell (p := ⟨w6.heap.size, q, none⟩) (.inl rfl) (.int .u8 (k : Int)))
                  clear HB HO hb' HX5 HoH5 HoM5 HCW
                  go_wp2_with fail
                  go_roundw
                  case rel => first | exact ⟨q + 1, by omega, by go_num, HB', HO'⟩ | ((repeat apply Exists.intro); exact ⟨⟨q + 1, by omega, by go_num, HB', HO'⟩, rfl⟩)
                  case measure => simp [intOf] <;> omega
                · obtain rfl : q = Z := by omega
                  have hfull : Blk wr w6.heap.size 5 (bc (List.replicate q (UInt8.ofNat k))) := by rw [← bf_all hk256]; exact HB.out
                  have hO6 : Only (fun b => b = w6.heap.size) w6 wr := (Below.only HBel7.out).trans HO.out (fun x hx => .inl hx)
                  have hX6 := HX5.out.turn (D := fun _ => False) (G' := fun b => (Value.slice vha held.length vhc).ownBlock = some b ∨ (Value.slice vma held.length vmc).ownBlock = some b) (Below.only HB6.out) (fun _ h => h.elim) (fun b hb => .inl hb) (fun _ h => h.elim)
                  have hX8 := hX6.turn (G' := fun b => (Value.slice vha held.length vhc).ownBlock = some b ∨ (Value.slice vma held.length vmc).ownBlock = some b) hO6 (fun b hb => .inr (Nat.le_of_eq hb.symm)) (fun b hb => .inl hb) (fun b hb => by rw [hb]; exact hX6.2.1.size)
                  have hH6 := own_only HoH5.out (D := fun _ => False) (Below.only HB6.out) (fun _ _ h => h)
                  have hM6 := own_only HoM5.out (D := fun _ => False) (Below.only HB6.out) (fun _ _ h => h)
                  have hH8 := own_only hH6 hO6 (fun b hb e => absurd (own_lt hH6 b hb) (by omega))
                  have hM8 := own_only hM6 hO6 (fun b hb e => absurd (own_lt hM6 b hb) (by omega))
                  have hby := blk_byts (c := q) hfull
                  have hput := hasX_put hX8 (fun b hb => hb.elim (own_lt hH8 b) (own_lt hM8 b)) (x : Int) (by omega) _ (List.replicate q (UInt8.ofNat k)) (by rw [List.length_replicate]; omega) hby
                  rw [Sl.put_yes HXU.out (by rw [List.length_replicate, HZC.out]; exact Nat.le_refl _)] at hput
                  rw [List.length_replicate] at hput
                  dsimp only at hput
                  have hcz := (hX8.2.1.cell (p := ⟨g, t', none⟩) HCW.out.1).trans HCW.out.2
                  have it' : (t' : Int) < (n : Int) := by omega
                  have xt := HXT.out
                  have HH8 := hid hH8
                  have HM8 := hid hM8
                  clear hfull hO6 hX6 hX8 hH6 hM6 hH8 hM8 hby HB HO HX5 HoH5 HoM5 HB6 HBel7 HCW HXT hqZ hq
                  go_wp2_with fail
                  refine hput.mono ?_
                  rintro e' w9 ⟨rfl, hX9, ho9⟩
                  have hH9 := own_only HH8.out ho9 (fun _ hb hn => hn (.inl hb))
                  have hM9 := own_only HM8.out ho9 (fun _ hb hn => hn (.inr hb))
                  have hsz9 := hX9.2.1.size
                  have HX9 := hid hX9
                  have HM9 := hid hM9
                  have HAP := hid (rows_apart hH9 hM9)
                  clear hput hcz it' xt HH8 HM8 hX9 ho9 hM9
                  go_wp2_with (at_builtin; refine wpList_append_lies _ rfl _ _ _ rfl W.heap.size 3 i0 (.int .i64 0) 1 8 Try.underlying22 hi0 hz0 hz1 hz2 rfl (by decide) (.slice vha held.length vhc) held.length (nc held) rfl (hH9.alloc _) ⟨w9.heap.size, 0, none⟩ 1 1 [.int .i64 (x : Int)] rfl rfl (one_cell _ _ _) (one_ok _) (by omega) (by unfold maxLen; omega) (by omega) (by simp; omega) (w9.heap.size + 1) (by simp) ?_)
                  intro g1 cap1 w10 hown10 hgrow10 hat10 hlt10
                  have ho10 := app_row_only hgrow10
                  have hX10 := HX9.out.appG (G' := fun b => (Value.slice (some ⟨g1, 0, none⟩) (held.length + 1) cap1).ownBlock = some b ∨ (Value.slice vma held.length vmc).ownBlock = some b) (fun b hb => .inl hb) hH9 ho10 (fun b hb => by
                    rcases hb with hb | hb
                    · have e : g1 = b := by simpa [Value.ownBlock] using hb
                      rcases hat10 with h | h
                      · exact .inl (.inl (e ▸ h))
                      · exact .inr (by omega)
                    · exact .inl (.inr hb))
                  have hM10 := own_beside HM9.out ho10 HAP.out
                  have hH10 : w10.ownsRow W.heap.size 3 1 (.slice (some ⟨g1, 0, none⟩) (held.length + 1) cap1) (held.length + 1) (nc (held ++ [x])) := by rw [← nc_app]; exact hown10
                  have hsz10 := hX10.2.1.size
                  have HX10 := hid hX10
                  have HAP10 := hid (rows_apart hH10 hM10)
                  have HH10 := hid hH10
                  clear hown10 hgrow10 hat10 ho10 hX10 hH10 HX9 HM9 HAP hH9 hsz9
                  go_wp2_with (at_builtin; refine wpList_append_lies _ rfl _ _ _ rfl W.heap.size 5 j0 (.int .u8 0) 1 1 Try.underlying39 hj0 jz0 jz1 jz2 rfl (by decide) (.slice vma held.length vmc) held.length (bc marks) rfl (hM10.alloc _) ⟨w10.heap.size, 0, none⟩ 1 1 [.int .u8 (k : Int)] rfl rfl (one_cell _ _ _) (one_byte _) (by omega) (by unfold maxLen; omega) (by omega) (by simp; omega) (w10.heap.size + 1) (by simp) ?_)
                  intro g2 cap2 w11 hown11 hgrow11 hat11 hlt11
                  have ho11 := app_row_only hgrow11
                  have hX11 := HX10.out.appG (G' := fun b => (Value.slice (some ⟨g1, 0, none⟩) (held.length + 1) cap1).ownBlock = some b ∨ (Value.slice (some ⟨g2, 0, none⟩) (held.length + 1) cap2).ownBlock = some b) (fun b hb => .inr hb) hM10 ho11 (fun b hb => by
                    rcases hb with hb | hb
                    · exact .inl (.inl hb)
                    · have e : g2 = b := by simpa [Value.ownBlock] using hb
                      rcases hat11 with h | h
                      · exact .inl (.inr (e ▸ h))
                      · exact .inr (by omega))
                  have hH11 := own_beside HH10.out ho11 (fun b h1 h2 => HAP10.out b h2 h1)
                  rw [bc_app _ hk256] at hown11
                  have el : (held ++ [x]).length = held.length + 1 := by rw [List.length_append]; rfl
                  have HX11 := hid hX11
                  have HH11 : Hid (w11.ownsRow W.heap.size 3 1 (.slice (some ⟨g1, 0, none⟩) (held.length + 1) cap1) (held ++ [x]).length (nc (held ++ [x]))) := hid (by rw [el]; exact hH11)
                  have HM11 : Hid (w11.ownsRow W.heap.size 5 1 (.slice (some ⟨g2, 0, none⟩) (held.length + 1) cap2) (held ++ [x]).length (bc (marks ++ [UInt8.ofNat k]))) := hid (by rw [el]; exact hown11)
                  have hle : (held ++ [x]).length ≤ k + 1 := by rw [el]; omega
                  clear hown11 hgrow11 hat11 ho11 hX11 hH11 HX10 HH10 HAP10 hM10 hsz10 el
                  go_wp2_with fail
                  go_roundw
                  case rel => first | exact ⟨k + 1, held ++ [x], marks ++ [UInt8.ofNat k], _, by omega, by go_num, hle, HMORE, HSZ, HX11, HH11, HM11⟩ | ((repeat apply Exists.intro); exact ⟨⟨k + 1, held ++ [x], marks ++ [UInt8.ofNat k], _, by omega, by go_num, hle, HMORE, HSZ, HX11, HH11, HM11⟩, rfl⟩)
                  case measure => simp [intOf] <;> omega
    · have hcase : ¬ (k : Int) < (m : Int) ∨ ((k : Int) < (m : Int) ∧ ¬ (k : Int) < 100) := by omega
      have hL100 : held.length ≤ 100 := by omega
      have HLM := hid HH.out.len
      clear hgo HZ HZR HM HC HN HZs hhk
      rcases hcase with g1 | ⟨g1, g2⟩
      all_goals
        go_wp2_with fail
        go_loopw [27] (fun i wr' => ∃ q : Nat, q ≤ held.length ∧ i = .int .i64 q ∧ Hid (Below wr.heap.size wr wr')) (fun i _ => held.length - (intOf i).toNat)
        case atStart => exact ⟨0, Nat.zero_le _, rfl, hid (Below.refl _ _)⟩
        case round =>
          obtain ⟨q, hq, rfl, HB⟩ := hrel
          by_cases hql : q < held.length
          · have iq : (q : Int) < (held.length : Int) := by omega
            obtain ⟨x, hx⟩ : ∃ x, held[q]? = some x := ⟨_, List.getElem?_eq_getElem hql⟩
            obtain ⟨mk, hmk⟩ : ∃ mk, marks[q]? = some mk := ⟨_, List.getElem?_eq_getElem (by rw [HLM.out]; exact hql)⟩
            obtain ⟨hxu, hget, hZ1, hZ2, hxl⟩ := get_all HH.out hx hmk
            have hx1 := HX.out.with (G' := fun _ => False) (fun _ h => h.elim)
            have hx2 := hx1.turn (D := fun _ => False) (G' := fun _ => False) (Below.only HB.out) (fun _ h => h.elim) (fun _ h => h.elim) (fun _ h => h.elim)
            have HX2 := hid hx2
            have hw := has_where hx2.has (x : Int) (by omega)
            rw [wher_z hxu] at hw
            have hg := fun w (h : HasX W P s (fun _ => False) w) => h.get (x : Int) ((s.zAt x : Nat) : Int) (by omega)
            rw [hget] at hg
            dsimp only at hg hw
            rw [List.length_replicate] at hg
            have hoM : wr.ownsRow W.heap.size 5 1 (.slice vma marks.length vmc) marks.length (bc marks) := by rw [HLM.out]; exact own_only HoM.out (D := fun _ => False) (Below.only HB.out) (fun _ _ h => h)
            obtain ⟨gm, e, mcap, hgm⟩ := own_form hoM (by rw [HLM.out]; omega)
            cases e
            have hcm := byte_cell hoM hmk
            obtain ⟨gh, c2, e, hcap, hcx, _⟩ := own_cell (own_only HoH.out (D := fun _ => False) (Below.only HB.out) (fun _ _ h => h)) hx
            cases e
            generalize hZe : s.zAt x = Z at *
            generalize x / 4096 = xp at hw
            generalize x % 4096 * Z = xa at hw
            have hZ0 : ((Z : Int) == 0) = false := by rw [beq_eq_false_iff_ne]; omega
            have HCM := hid (And.intro hcm hgm)
            have HCX := hid (And.intro hcx (cell_lt hcx))
            have HG := hid hg
            clear hx hmk hxu hget hx1 hx2 hoM hcm hgm mcap hcap hZe hg
            go_wp2_with fail
            refine hw.mono ?_
            rintro e' w6 ⟨rfl, md, hw6⟩
            have hB6 : Below wr.heap.size wr w6 := by rw [hw6]; exact ⟨rfl, rfl, rfl, Nat.le_refl _, fun _ _ => rfl⟩
            have HB6 := hid hB6
            have hcx := (hB6.cell (p := ⟨gh, q, none⟩) HCX.out.2).trans HCX.out.1
            have hg := HG.out w6 (HX2.out.turn (D := fun _ => False) (G' := fun _ => False) (Below.only hB6) (fun _ h => h.elim) (fun _ h => h.elim) (fun _ h => h.elim))
            clear hw hw6 hB6 HCX HG HX2
            go_wp2_with fail
            refine hg.mono ?_
            rintro e' w7 ⟨v, rfl, hv, hB7⟩
            obtain ⟨ra, rc, rfl⟩ := row_form hv
            obtain ⟨gb, e, bcap, hgb⟩ := own_form hv (by omega)
            cases e
            have HV := hid hv
            have hcm7 := ((Below.then HB6.out hB7).cell (p := ⟨gm, q, none⟩) HCM.out.2).trans HCM.out.1
            have HM7 := hid (And.intro hcm7 (Nat.lt_of_lt_of_le HCM.out.2 (Below.then HB6.out hB7).size))
            have HB7 := hid (Below.then HB.out (Below.then HB6.out hB7))
            clear hg hcx HCM hB7 HB6 HB hv hcm7
            go_wp2_with fail
            go_loopw [33] (fun i wr' => ∃ t : Nat, t ≤ Z ∧ i = .int .i64 t ∧ Hid (Below w7.heap.size w7 wr')) (fun i _ => Z - (intOf i).toNat)
            case atStart => exact ⟨0, Nat.zero_le _, rfl, hid (Below.refl _ _)⟩
            case round =>
              obtain ⟨t, ht, rfl, HB8⟩ := hrel
              by_cases htZ : t < Z
              · have it : (t : Int) < (Z : Int) := by omega
                have c1 := (HB8.out.cell (p := ⟨gb, t, none⟩) hgb).trans (rep_cell HV.out htZ)
                have c2 := (HB8.out.cell (p := ⟨gm, q, none⟩) HM7.out.2).trans HM7.out.1
                have HB9 : Hid (∀ n, Below w7.heap.size w7 (wr.drewN n)) := hid (fun n => Below.then HB8.out ⟨rfl, rfl, rfl, Nat.le_refl _, fun _ _ => rfl⟩)
                clear HB8 HV HM7
                go_wp2_with fail
                go_quiet (fail)
                clear c1 c2
                go_wp2_with fail
                go_roundw
                case rel => first | exact ⟨t + 1, by omega, by go_num, hid (HB9.out _)⟩ | ((repeat apply Exists.intro); exact ⟨⟨t + 1, by omega, by go_num, hid (HB9.out _)⟩, rfl⟩)
                case measure => simp [intOf] <;> omega
              · obtain rfl : t = Z := by omega
                have HB9 := hid (Below.then HB7.out HB8.out)
                clear HB8 HV HM7
                go_wp2_with fail
                go_roundw
                case rel => first | exact ⟨q + 1, by omega, by go_num, HB9⟩ | ((repeat apply Exists.intro); exact ⟨⟨q + 1, by omega, by go_num, HB9⟩, rfl⟩)
                case measure => simp [intOf] <;> omega
          · obtain rfl : q = held.length := by omega
            have hfin := Below.then HBW.out (Below.then HX.out.2.1 HB.out)
            go_wp2_with fail
            go_ret
            exact ⟨rfl, hfin⟩
end Go.Proofs.Ytldfpacdlephcaa
