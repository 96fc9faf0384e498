/-
  slab.New at this program where it refuses, and the document's own answer's New (ambryref07), of any arena and any sizes. No conditions but that there are no more sizes than an int holds.
-/
import Derived.Test.YtldfpacdlephcaaSlabRefMem
import Derived.Test.YtldfpacdlephcaaArenaRefNew
import Derived.Test.YtldfpacdlephcaaSlabMake
import Derived.BigQuiet
namespace Go.Proofs.Ytldfpacdlephcaa
open Go Go.RowKit Go.Lib

set_option maxRecDepth 100000 in
theorem new_nil (v : Value) (w : World) :
    Calls Try.prog 11 #[.pointer none, v] w fun e w' => e = .returned (.tuple #[.pointer none, .int .i64 1]) ∧ w = w' := by
  go_enter Try.func11, Try.ntmps11
  go_wp2_with fail
  go_ret2
  exact ⟨rfl, rfl⟩
set_option maxHeartbeats 1000000 in
set_option maxRecDepth 100000 in
theorem new_refused {A O B : Nat} {a : St} {w : World} (h : AIs A O B a w) (sa : Option Addr) (c : Nat) (zs : List Int) (hl : zs.length ≤ 9223372036854775807) (hZ : Sz.Ints w (.slice sa zs.length c) zs) (hb : 0 < cnt a.ow ∨ (cnt a.ow = 0 ∧ sizesB zs (a.size : Int) = false)) :
    Calls Try.prog 11 #[.pointer (some ⟨A, 0, none⟩), .slice sa zs.length c] w fun e w' => e = .returned (.tuple #[.pointer none, .int .i64 1]) ∧ w = w' := by
  have hg := granted_count h
  have hp := page_size h
  have hA := areSizes_any sa c zs (a.size : Int) w hl hZ
  clear h hZ
  rcases hb with hb | ⟨hb, hb2⟩
  · have g1 : (0 : Int) < (cnt a.ow : Nat) := by omega
    generalize zs.length = N at *
    generalize cnt a.ow = n at *
    go_enter Try.func11, Try.ntmps11
    go_wp2_with fail
    refine hg.mono ?_
    rintro e w' ⟨rfl, rfl⟩
    clear hg hp hA
    go_wp2_with fail
    go_ret2
    exact ⟨rfl, rfl⟩
  · rw [hb] at hg
    rw [hb2] at hA
    clear hb hb2
    generalize zs.length = N at *
    go_enter Try.func11, Try.ntmps11
    go_wp2_with fail
    refine hg.mono ?_
    rintro e w' ⟨rfl, rfl⟩
    clear hg
    go_wp2_with fail
    refine hp.mono ?_
    rintro e w' ⟨rfl, rfl⟩
    clear hp
    go_wp2_with fail
    refine hA.mono ?_
    rintro e w' ⟨rfl, rfl⟩
    clear hA
    go_wp2_with fail
    go_ret2
    exact ⟨rfl, rfl⟩

theorem own_none' (w : World) (base : Nat) (e : TypeId) (hb : base ≤ w.heap.size) : (w.alloc (.cells #[] e)).ownsRow base e 1 (.slice (some ⟨w.heap.size, 0, none⟩) 0 0) 0 [] :=
  ⟨rfl, .inr ⟨w.heap.size, 0, #[], rfl, hb, Blk.new w #[] e, Nat.le_refl _, Nat.zero_le _, rfl, rfl⟩⟩
theorem below_app2 {w0 W w1 : World} {o : Obj} {n c : Nat} (hb : Below w0.heap.size w0 W) (hg : (W.alloc o).grownBy w1 (Value.slice (some ⟨W.heap.size, 0, none⟩) n c).ownBlock) : Below w0.heap.size w0 w1 := by
  have hb2 := hb.alloc hb.size o
  refine ⟨hg.os.trans hb2.os, hg.tape.trans hb2.tape, hg.output.trans hb2.output, Nat.le_trans hb2.size hg.size, fun k hk => (hg.block k (Nat.lt_of_lt_of_le hk hb2.size) (fun e => ?_)).trans (hb2.block k hk)⟩
  have := hb.size
  simp [Value.ownBlock] at e
  omega
/-- What the answer's New leaves. -/
def RMade (P0 O B : Nat) (bl : Nat → Option Nat) (a : St) (sz : List Nat) (w : World) (d : Dr) (w' : World) : Prop :=
  RM d (rf (newSl a sz) [] []) w' ∧ (∀ b, TFoot d sz.length b → RFoot P0 O B bl b ∨ w.heap.size ≤ b) ∧ Below w.heap.size w w' ∧ d.A = P0
theorem newSl_ag (a : St) (sz : List Nat) : Ag (newSl a sz) [] [] :=
  ⟨List.Pairwise.nil, fun x => ⟨fun h => (by cases h), fun h => by
    obtain ⟨k, hk, _⟩ := Sl.usedN_true h
    cases hk⟩, fun p => ⟨fun h => (by cases h), fun ⟨k, hk, _⟩ => by cases hk⟩, List.nodup_nil⟩
theorem rnew_end {P0 O B cO cB : Nat} {bl : Nat → Option Nat} {a : St} {w W : World} (h : RIs P0 O B cO cB bl a w) {zs : List Int} {N : Nat} (hzN : zs.length = N) (hr : ∀ z ∈ zs, 63 < z ∧ z ≤ (a.size : Int)) (hn1 : 1 ≤ N) {P R c3 : Nat} {a3 : Option Addr} (hbel : Below w.heap.size w W)
    (hR : Blk W R 22 (List.replicate N (.slice none 0 0))) (hR2 : w.heap.size ≤ R) (hP : Blk W P 77 [.pointer (some ⟨P0, 0, none⟩), .slice a3 N c3, .slice (some ⟨R, 0, none⟩) N N, .slice none 0 0, .slice none 0 0]) (hP2 : w.heap.size ≤ P) (hown : W.ownsRow w.heap.size 3 1 (.slice a3 N c3) N (ic zs)) :
    ∃ d : Dr, d.P = P ∧ RMade P0 O B bl a (zs.map Int.toNat) w d W := by
  have hl : (zs.map Int.toNat).length = N := by rw [List.length_map]; exact hzN
  rcases hown.2 with ⟨_, h0⟩ | ⟨g, cap, cur, hv, hg0, hg, hcap, hm, hsz, htk⟩
  · omega
  cases hv
  rw [Nat.mul_one] at hsz htk
  have hZ : Blk W g 3 cur.toList := by unfold Blk; rw [Array.toArray_toList]; exact hg
  have hlt := h.lt
  have hn : ∀ b : Nat, (Value.slice none 0 0).ownBlock ≠ some b := fun b => by simp [Value.ownBlock]
  refine ⟨{ P := P, A := P0, O := O, B := B, Z := g, R := R, cO := cO, cB := cB, cZ := c3, bl := bl, rv := fun _ => .slice none 0 0 }, rfl, ⟨h.below hbel, ?_, ⟨cur.toList, hZ, fun i z hi => ?_⟩, ?_, fun c hc => ?_, fun c c' b _ _ e => (hn b e).elim, fun c _ => ⟨hn _, hn _⟩, ?_⟩, fun b hb => ?_, hbel, rfl⟩
  · show Blk _ P _ [_, .slice _ (zs.map Int.toNat).length _, .slice _ (zs.map Int.toNat).length (zs.map Int.toNat).length, _, _]
    rw [hl]
    exact hP
  · have hi' : (zs.map Int.toNat)[i]? = some z := hi
    rw [List.getElem?_map] at hi'
    obtain ⟨y, hy, rfl⟩ := Option.map_eq_some_iff.1 hi'
    have h2 := ic_at hy
    rw [← htk, List.getElem?_take] at h2
    split at h2
    · rw [h2]
      have := hr y (List.mem_of_getElem? hy)
      rw [show ((y.toNat : Nat) : Int) = y by omega]
    · cases h2
  · show Blk _ R _ (tab _ (zs.map Int.toNat).length)
    rw [hl]
    have e : tab (fun _ => Value.slice none 0 0) N = List.replicate N (.slice none 0 0) := tab_const (fun _ _ => rfl)
    rw [e]; exact hR
  · have e : (rf (newSl a (zs.map Int.toNat)) [] []).rows c = [] := by
      show (if c < _ then [] else if c = _ then [] else []) = []
      split
      · rfl
      · split <;> rfl
    rw [e]
    exact World.ownsRow_nil _ _ _ _
  · show g ≠ O
    have := hlt O (.inr (.inl rfl))
    omega
  · rcases hb with e | e | e | e | ⟨c, _, e⟩
    · have e' : b = P := e
      exact .inr (by omega)
    · have e' : b = g := e
      exact .inr (by omega)
    · have e' : b = R := e
      exact .inr (by omega)
    · exact .inl e
    · exact (hn b e).elim

set_option maxHeartbeats 4000000 in
set_option maxRecDepth 100000 in
theorem ref_new7 {P0 O B cO cB : Nat} {bl : Nat → Option Nat} {a : St} {w : World} (h : RIs P0 O B cO cB bl a w) (hc : cnt a.ow = 0) (sa : Option Addr) (c : Nat) (zs : List Int) (hl : zs.length ≤ 1000) (hZ : Sz.Ints w (.slice sa zs.length c) zs) :
    Calls Try.prog 12 #[.pointer (some ⟨P0, 0, none⟩), .slice sa zs.length c] w fun e w' => (sizesB zs (a.size : Int) = true ∧ ∃ d : Dr, e = .returned (.tuple #[.pointer (some ⟨d.P, 0, none⟩), .int .i64 0]) ∧ RMade P0 O B bl a (zs.map Int.toNat) w d w') ∨ (sizesB zs (a.size : Int) = false ∧ e = .returned (.tuple #[.pointer none, .int .i64 1]) ∧ Below w.heap.size w w') := by
  obtain ⟨i0, hi, hz0, hz1, hz2⟩ := info_parts infoInt
  obtain ⟨j0, hj, hy0, hy1, hy2⟩ := info_parts infoRow
  have hg := ref_count h
  rw [hc] at hg
  have hA : Hid (∀ (j : Nat) z, zs[j]? = some z → ∃ b o, sa = some ⟨b, o, none⟩ ∧ b < w.heap.size ∧ w.cell? ⟨b, o + j, none⟩ = some (.int .i64 z)) := by
    obtain ⟨a', c', e, hx⟩ := hZ
    cases e
    exact hid hx
  have hP0 : w.cell? ⟨P0, 0, none⟩ = some (.int .i64 (a.size : Int)) := h.head.cell rfl
  have hs2 := h.ok.s2
  have hs1 := h.ok.s1
  obtain ⟨N, hN⟩ : ∃ N, N = zs.length := ⟨_, rfl⟩
  obtain ⟨r, hr⟩ : ∃ r, r = sizesB zs (a.size : Int) := ⟨_, rfl⟩
  rw [← hr, ← hN]
  rw [← hN] at hl
  have HN := hid hN
  have HR := hid hr
  have H := hid h
  have hcase : N = 0 ∨ (63 < N) ∨ (1 ≤ N ∧ N ≤ 63) := by omega
  clear h hZ hN hr hc
  rcases hcase with rfl | h1 | ⟨h1, h2⟩
  · have HRF : Hid (r = false) := hid (by rw [HR.out]; unfold sizesB; rw [← HN.out]; simp)
    clear hA HN HR H hg hP0
    go_enter Try.func12, Try.ntmps12
    go_wp2_with fail
    go_ret2
    exact .inr ⟨HRF.out, rfl, Below.refl _ _⟩
  · have HRF : Hid (r = false) := hid (by
      rw [HR.out]; unfold sizesB; rw [← HN.out]
      have : ¬ (1 ≤ N ∧ N ≤ 63) := by omega
      simp [this])
    have g1 : (63 : Int) < (N : Int) := by omega
    have g2 : ((N : Int) == 0) = false := by rw [beq_eq_false_iff_ne]; omega
    clear hA HN HR H hg hP0
    go_enter Try.func12, Try.ntmps12
    go_wp2_with fail
    go_ret2
    exact .inr ⟨HRF.out, rfl, Below.refl _ _⟩
  · have g1 : ¬ (63 : Int) < (N : Int) := by omega
    have g2 : ((N : Int) == 0) = false := by rw [beq_eq_false_iff_ne]; omega
    have HRI : Hid (r = rises (a.size : Int) 63 zs) := hid (by
      rw [HR.out]; unfold sizesB; rw [← HN.out]
      simp [h1, h2])
    obtain ⟨sz, hsz⟩ : ∃ sz, sz = a.size := ⟨_, rfl⟩
    rw [← hsz] at hP0 hs1 hs2 HRI
    have HSZ := hid hsz
    clear hsz
    go_enter Try.func12, Try.ntmps12
    go_wp2_with fail
    refine hg.mono ?_
    rintro e w' ⟨rfl, rfl⟩
    clear hg
    go_wp2_with fail
    go_loopw [7] (fun i wr => ∃ (k : Nat) (b : Int), k ≤ N ∧ i = .int .i64 k ∧ Hid (r = rises (sz : Int) b (zs.drop k)) ∧ 63 ≤ b ∧ ((k = 0 ∧ b = 63) ∨ ∃ m, k = m + 1 ∧ Hid (zs[m]? = some b)) ∧ ∃ n, wr = w.drewN n) (fun i _ => N - (intOf i).toNat)
    case atStart => exact ⟨0, 63, Nat.zero_le _, rfl, by rw [List.drop_zero]; exact HRI, by omega, .inl ⟨rfl, rfl⟩, 0, rfl⟩
    case round =>
      obtain ⟨k, b, hk, rfl, HK, hb63, hkb, n, rfl⟩ := hrel
      clear HRI
      by_cases hlt : k < N
      · have ilt : (k : Int) < (N : Int) := by omega
        obtain ⟨z, hz⟩ : ∃ z, zs[k]? = some z := ⟨_, List.getElem?_eq_getElem (by rw [← HN.out]; exact hlt)⟩
        obtain ⟨zb, zo, rfl, hzl, hcz⟩ := hA.out k z hz
        by_cases hbad : z ≤ b ∨ (sz : Int) < z
        · have HRF : Hid (r = false) := hid (by rw [HK.out]; exact rises_no hz hbad)
          have HB : Hid (∀ m, Below w.heap.size w ((w.drewN n).drewN m)) := hid (fun _ => ⟨rfl, rfl, rfl, Nat.le_refl _, fun _ _ => rfl⟩)
          by_cases c1 : z < 64
          · clear hA HN HK H HSZ hz hkb hbad
            go_wp2_with fail
            go_quiet (fail)
            go_wp2_with fail
            go_ret2
            exact .inr ⟨HRF.out, rfl, HB.out _⟩
          · by_cases c2 : (sz : Int) < z
            · have d1 : decide (z < 64) = false := by simpa using c1
              have d2 : decide ((sz : Int) < z) = true := by simpa using c2
              clear c1 c2
              clear hA HN HK H HSZ hz hkb hbad
              go_wp2_with fail
              go_quiet (fail)
              go_wp2_with fail
              go_ret2
              exact .inr ⟨HRF.out, rfl, HB.out _⟩
            · have c3 : z ≤ b := by omega
              rcases hkb with ⟨rfl, rfl⟩ | ⟨m, hkm, hzm⟩
              · omega
              · obtain ⟨zb2, zo2, e, _, hcm⟩ := hA.out m b hzm.out
                cases e
                have e1 : IntKind.i64.wrap ((k : Int) - 1) = (m : Int) := by rw [IntWalk.i64_in _ (by omega)]; omega
                have e2 : (k : Int) - 1 = (m : Int) := by omega
                have e3 : (0 : Int) < (k : Int) := by omega
                have e4 : (m : Int) < (N : Int) := by omega
                have e5 : 0 < k := by omega
                have e6 : (0 : Int) ≤ (k : Int) - 1 := by omega
                have e7 : (k : Int) - 1 < (N : Int) := by omega
                have e8 : ((k : Int) - 1).toNat = m := by omega
                have d1 : decide (z < 64) = false := by simpa using c1
                have d2 : decide ((sz : Int) < z) = false := by simpa using c2
                have d3 : decide (0 < k) = true := by simpa using e5
                have d4 : decide (z ≤ b) = true := by simpa using c3
                clear hA HN HK H HSZ hz hbad hzm hkm
                go_wp2_with fail
                go_quiet (fail)
                go_wp2_with fail
                go_ret2
                exact .inr ⟨HRF.out, rfl, HB.out _⟩
        · have c1 : ¬ z < 64 := by omega
          have c2 : ¬ (sz : Int) < z := by omega
          have HK' : Hid (r = rises (sz : Int) z (zs.drop (k + 1))) := hid (HK.out.trans (rises_go hz (by omega) (by omega)))
          have HZ' := hid hz
          have hz63 : 63 ≤ z := by omega
          have d1 : decide (z < 64) = false := by simpa using c1
          have d2 : decide ((sz : Int) < z) = false := by simpa using c2
          rcases hkb with ⟨rfl, rfl⟩ | ⟨m, hkm, hzm⟩
          · rw [Nat.add_zero] at hcz
            clear hA HN HK H HSZ hz hbad
            go_wp2_with fail
            go_quiet (fail)
            go_wp2_with fail
            go_roundw
            case rel => exact ⟨0 + 1, z, by omega, by go_num, HK', hz63, .inr ⟨0, rfl, HZ'⟩, _, rfl⟩
            case measure => simp [intOf] <;> omega
          · obtain ⟨zb2, zo2, e, _, hcm⟩ := hA.out m b hzm.out
            cases e
            have c3 : ¬ z ≤ b := by omega
            have e1 : IntKind.i64.wrap ((k : Int) - 1) = (m : Int) := by rw [IntWalk.i64_in _ (by omega)]; omega
            have e2 : (k : Int) - 1 = (m : Int) := by omega
            have e3 : (0 : Int) < (k : Int) := by omega
            have e4 : (m : Int) < (N : Int) := by omega
            have e5 : 0 < k := by omega
            have e6 : (0 : Int) ≤ (k : Int) - 1 := by omega
            have e7 : (k : Int) - 1 < (N : Int) := by omega
            have e8 : ((k : Int) - 1).toNat = m := by omega
            have d3 : decide (0 < k) = true := by simpa using e5
            have d4 : decide (z ≤ b) = false := by simpa using c3
            clear hA HN HK H HSZ hz hbad hzm hkm
            go_wp2_with fail
            go_quiet (fail)
            go_wp2_with fail
            go_roundw
            case rel => exact ⟨k + 1, z, by omega, by go_num, HK', hz63, .inr ⟨k, rfl, HZ'⟩, _, rfl⟩
            case measure => simp [intOf] <;> omega
      · obtain rfl : k = N := by omega
        have HRT : Hid (r = true) := hid (by rw [HK.out]; exact rises_end (by rw [← HN.out]; omega))
        have HRZ : Hid (∀ z ∈ zs, 63 < z ∧ z ≤ (a.size : Int)) := hid (by
          have hb := HR.out.symm.trans HRT.out
          unfold sizesB at hb
          rw [Bool.and_eq_true] at hb
          exact rises_all hb.2)
        obtain ⟨z0, hz0'⟩ : ∃ z0, zs[0]? = some z0 := ⟨_, List.getElem?_eq_getElem (by rw [← HN.out]; omega)⟩
        obtain ⟨zb, zo, rfl, -, -⟩ := hA.out 0 z0 hz0'
        obtain ⟨W0, hW0⟩ : ∃ W0, W0 = w.drewN n := ⟨_, rfl⟩
        have HB0 : Hid (Below w.heap.size w W0) := hid (by rw [hW0]; exact drewN_below w n)
        rw [← hW0]
        have hs0 := HB0.out.size
        have hsrc : ∀ j v, (ic zs)[j]? = some v → (W0.alloc (.cells #[] 3)).cell? ((⟨zb, zo, none⟩ : Addr).add j) = some v := fun j v hj => by
          unfold ic at hj
          rw [List.getElem?_map] at hj
          obtain ⟨z, hz, rfl⟩ := Option.map_eq_some_iff.1 hj
          obtain ⟨b', o', e, hl', hc'⟩ := hA.out j z hz
          cases e
          rw [addr_plain]
          exact cell_alloc ((HB0.out.cell (p := ⟨zb, zo + j, none⟩) hl').trans hc') _
        have hlen : (ic zs).length = k * 1 := by rw [ic_len, ← HN.out]; omega
        clear hA HK hkb hz0' hW0 HR HSZ hP0
        go_wp2_with (at_builtin; refine wpList_append_own _ rfl _ _ 22 rfl w.heap.size 3 i0 (.int .i64 0) 1 8 Try.underlying22 hi hz0 hz1 hz2 rfl (by decide) _ 0 [] rfl (own_none' W0 w.heap.size 3 hs0) ⟨zb, zo, none⟩ k c (ic zs) rfl hlen hsrc (ic_ok _) (by unfold maxLen; omega) (by omega) (by simp; omega) ?_)
        intro v' w1 hown' hgrow _
        have hb1 : Below w.heap.size w w1 := below_app2 HB0.out hgrow
        obtain ⟨va, vc, rfl⟩ := row_form hown'
        have HO := hid hown'
        have hs1 := hb1.size
        have hBP := Blk.new w1 #[.pointer (some ⟨P0, 0, none⟩), .slice va k vc, .slice none 0 0, .slice none 0 0, .slice none 0 0] 77
        have HB1 := hid hb1
        clear hsrc hlen hown' hgrow hb1
        go_wp2_with (at_make; refine wpList_make_full _ rfl _ _ 72 rfl (w1.heap.size + 1) 22 j0 (.slice none 0 0) 1 Try.underlying72 hj hy0 hy1 .i64 .i64 _ _ k rfl rfl (by omega) (by omega) (by rw [hy2]; omega) (by unfold maxLen; omega) (by simp) ?_; intro w3 hown3 hgrow3; have hb3 := below_of_grown hgrow3; have e2 := (hBP.below hb3).cell (i := 2) rfl; have f2 := (hBP.below hb3).frozen 2)
        have hR3 := blk_of_full hown3
        have hP3 := hBP.below hb3
        have es : (w1.alloc (.cells #[.pointer (some ⟨P0, 0, none⟩), .slice va k vc, .slice none 0 0, .slice none 0 0, .slice none 0 0] 77)).heap.size = w1.heap.size + 1 := World.size_alloc _ _
        have hR4 : Blk w3 (w1.heap.size + 1) 22 (List.replicate k (.slice none 0 0)) := by
          have h := hR3
          rw [es, made_cells _ _ rfl] at h
          exact h
        have b13 : Below w1.heap.size w1 w3 := ((Below.refl _ w1).alloc (Nat.le_refl _) _).trans (hb3.mono (by rw [es]; omega))
        have bW : Below w.heap.size w (w3.setCell ⟨w1.heap.size, 2, none⟩ (.slice (some ⟨w1.heap.size + 1, 0, none⟩) k k)) := by
          have h1 := HB1.out.trans (b13.mono hs1)
          exact h1.trans ((Only.refl (fun b => b = w1.heap.size) w3).setCell (p := ⟨w1.heap.size, 2, none⟩) (.inl rfl) _ |>.below (Nat.le_trans hs1 b13.size) (fun b hb => by omega))
        have hPW := hP3.set 2 (.slice (some ⟨w1.heap.size + 1, 0, none⟩) k k)
        have hRW := hR4.setOther (p := ⟨w1.heap.size, 2, none⟩) (by simp) (.slice (some ⟨w1.heap.size + 1, 0, none⟩) k k)
        have hOW : (w3.setCell ⟨w1.heap.size, 2, none⟩ (.slice (some ⟨w1.heap.size + 1, 0, none⟩) k k)).ownsRow w.heap.size 3 1 (.slice va k vc) k (ic zs) := by
          have h1 := own_only HO.out (D := fun _ => False) (Below.only b13) (fun _ _ h => h)
          exact own_only h1 ((Only.refl (fun b => b = w1.heap.size) w3).setCell (p := ⟨w1.heap.size, 2, none⟩) (.inl rfl) _) (fun b hb e => by have := (HO.out.lt b hb).2; omega)
        obtain ⟨d, hd, hM⟩ := rnew_end H.out (zs := zs) (N := k) HN.out.symm HRZ.out (by omega) bW hRW (by omega) hPW hs1 hOW
        have HM := hid hM
        clear hM hPW hRW hOW bW b13 hR4 es hR3 hP3 e2 f2 hb3 hown3 hgrow3 hBP
        go_wp2_with fail
        go_ret2
        exact .inl ⟨HRT.out, d, by rw [hd]; rfl, HM.out⟩
end Go.Proofs.Ytldfpacdlephcaa
