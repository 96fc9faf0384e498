/-
  Who was removed is not there, and the others are: the statement, walked. No conditions.
-/
import Derived.Test.YtidcablgdbnddaaGhostKit
import Derived.Maps.AppendAt
namespace Go.Proofs.Ytidcablgdbnddaa
open Go Go.RowKit Go.Lib

/-- A slice of bools that came in. -/
def Bools (w : World) (a : Option Addr) (n : Nat) (B : Nat → Bool) : Prop := ∀ j, j < n → ∃ b o, a = some ⟨b, o, none⟩ ∧ b < w.heap.size ∧ w.cell? ⟨b, o + j, none⟩ = some (.bool (B j))
/-- A row of numbers of the call's own, read. -/
def Cel (w : World) (g : Nat) (zs : List Int) : Prop := ∀ j z, zs[j]? = some z → w.cell? ⟨g, j, none⟩ = some (.int .u64 z)
theorem cel_of {w : World} {base g n c : Nat} {zs : List Int} (h : w.ownsRow base 28 1 (.slice (some ⟨g, 0, none⟩) n c) n (uc zs)) : Cel w g zs := by
  intro j z hj
  have hl : zs.length = n := by have := h.1; rw [uc_len] at this; omega
  have h1 := h.cellAt j (by have := (List.getElem?_eq_some_iff.1 hj).1; omega)
  rw [h1, uc_at hj]
theorem own_only {D : Nat → Prop} {w w' : World} {base : Nat} {e : TypeId} {v : Value} {n : Nat} {xs : List Value} (h : w.ownsRow base e 1 v n xs) (ho : Only D w w') (hd : ∀ b, v.ownBlock = some b → ¬ D b) : w'.ownsRow base e 1 v n xs := by
  refine ⟨h.1, ?_⟩
  rcases h.2 with hn | ⟨g, cap, cur, hv, hb, hg, rest⟩
  · exact .inl hn
  · refine .inr ⟨g, cap, cur, hv, hb, ?_, rest⟩
    rw [ho.block g (Array.getElem?_eq_some_iff.1 hg).1 (hd g (by rw [hv]; rfl))]
    exact hg
theorem own_base_le {w : World} {base : Nat} {e : TypeId} {v : Value} {n : Nat} {xs : List Value} (h : w.ownsRow base e 1 v n xs) {b : Nat} (hb : v.ownBlock = some b) : base ≤ b ∧ b < w.heap.size := by
  rcases h.2 with ⟨rfl, _⟩ | ⟨g, cap, cur, rfl, h1, hg, _⟩
  · simp [Value.ownBlock] at hb
  · obtain rfl : g = b := by simpa [Value.ownBlock] using hb
    exact ⟨h1, (Array.getElem?_eq_some_iff.1 hg).1⟩
theorem own_below {w w' : World} {base : Nat} {e : TypeId} {v : Value} {n : Nat} {xs : List Value} (h : w.ownsRow base e 1 v n xs) (hb : Below w.heap.size w w') : w'.ownsRow base e 1 v n xs := own_only h (Below.only (D := fun _ => False) hb) (fun _ _ => id)
/-- What the append leaves of the ghost, of the row that it goes behind, and of the other row. -/
theorem gone_append {w1 w w' : World} {P m : Nat} {l : List Int} {v v' v0 : Value} {n k n0 B0 B4 : Nat} {xs xs' ys : List Value} {o : Obj} (h : HasG w1 P m l (fun x => v.ownBlock = some x ∨ v0.ownBlock = some x) w) (hv : w.ownsRow B4 28 1 v n xs) (h0 : w.ownsRow B0 28 1 v0 n0 ys)
    (hb0 : w1.heap.size ≤ B0 ∧ B0 ≤ B4 ∧ ∀ b, v0.ownBlock = some b → b < B4)
    (hg : (w.alloc o).grownBy w' v.ownBlock) (hv' : w'.ownsRow B4 28 1 v' k xs') (hl : v'.ownBlock = v.ownBlock ∨ v'.ownBlock = some (w.alloc o).heap.size) :
    HasG w1 P m l (fun x => v'.ownBlock = some x ∨ v0.ownBlock = some x) w' ∧ w'.ownsRow B0 28 1 v0 n0 ys := by
  have h1 : HasG w1 P m l (fun x => v.ownBlock = some x ∨ v0.ownBlock = some x) (w.alloc o) := h.after ((Below.refl _ _).alloc (Nat.le_refl _) o)
  have ho : Only (fun x => v.ownBlock = some x) (w.alloc o) w' := ⟨hg.os, hg.tape, hg.output, hg.size, fun k hk hn => hg.block k hk (fun e => hn e.symm)⟩
  have h0' : (w.alloc o).ownsRow B0 28 1 v0 n0 ys := own_below h0 ((Below.refl _ _).alloc (Nat.le_refl _) o)
  have h2 := own_only h0' ho (fun b hb e => by
    have q1 := (own_base_le hv e).1
    have q2 := hb0.2.2 b hb
    omega)
  refine ⟨h1.turn (ho.mono (fun x hx => .inl hx)) (fun x hx => ?_) (fun x hx => ?_), h2⟩
  · rcases hx with e | e
    · have := (own_base_le hv e).1; omega
    · have := (own_base_le h0 e).1; omega
  · rcases hx with e | e
    · refine ⟨?_, (own_base_le hv' e).2⟩
      rcases hl with e1 | e1
      · exact .inl (.inl (e1.symm.trans e))
      · rw [e1] at e; exact .inr (by rw [Option.some.inj e]; exact Nat.le_refl _)
    · exact ⟨.inl (.inr e), (own_base_le h2 e).2⟩

set_option maxRecDepth 100000 in
set_option maxHeartbeats 4000000 in
theorem gone_law (a : Option Addr) (n c0 : Nat) (zs : List Int) (ab : Option Addr) (nb cb : Nat) (B : Nat → Bool) (w : World) (hx : Nums w a n zs) (hy : Bools w ab nb B) :
    Calls Try.prog 6 #[.slice a n c0, .slice ab nb cb] w fun e w' => e = .returned (.bool true) ∧ Below w.heap.size w w' := by
  have hX := hid hx
  have hY := hid hy
  have hn := hx.1
  obtain ⟨i0, hi0, hz0, hz1, hz2⟩ := info_parts infoU64
  clear hx hy
  go_enter Try.func6, Try.ntmps6
  go_wp2_with fail
  refine (shown_any w).mono ?_
  rintro e w1 ⟨rfl, b1⟩
  go_wp2_with fail
  refine (has_new 1000 w1).mono ?_
  rintro e w2 ⟨P, rfl, hT⟩
  replace hT : HasG w1 P 1000 [] (fun _ => False) w2 := hT
  have HT := hid hT
  clear hT
  go_wp2_with fail
  go_loopw [7] (fun p wr => ∃ (i : Nat) (L : List Int), p = .int .i64 i ∧ i ≤ 60 ∧ i ≤ n ∧ Hid (L.length ≤ i) ∧ Hid (HasG w1 P 1000 L (fun _ => False) wr)) (fun p _ => 60 - (RowKit.intOf p).toNat)
  case atStart => exact ⟨0, [], rfl, Nat.zero_le _, Nat.zero_le _, hid (Nat.zero_le _), HT⟩
  case round =>
    obtain ⟨i, L, rfl, hi, hin, hL, hTr⟩ := hrel
    clear HT
    by_cases hlt : i < n ∧ i < 60
    · obtain ⟨l1, l2⟩ := hlt
      obtain ⟨x, hxi⟩ : ∃ x, zs[i]? = some x := ⟨_, List.getElem?_eq_getElem (by rw [hn]; exact l1)⟩
      obtain ⟨hxo, b, o, rfl, hB, hc⟩ := hX.out.2 i x hxi
      have hcw := ((Below.then b1 hTr.out.below).cell (p := ⟨b, o + i, none⟩) hB).trans hc
      have hb := has_add hTr.out x hxo (by have := hL.out; omega)
      have hL2 : Hid ((addL 1000 L x).length ≤ i + 1) := hid (Nat.le_trans (add_len 1000 L x) (by have := hL.out; omega))
      clear hxi hc hTr hxo
      go_wp2_with fail
      refine hb.mono ?_
      rintro e w5 ⟨rfl, h5, -⟩
      have H5 := hid h5
      clear h5 hb
      go_wp2_with fail
      go_roundw
      case rel => exact ⟨i + 1, _, by go_num, by omega, by omega, hL2, H5⟩
      case measure => simp [RowKit.intOf] <;> omega
    · have hstop : (n : Int) ≤ (i : Int) ∨ ((i : Int) < (n : Int) ∧ (60 : Int) ≤ (i : Int)) := by omega
      clear hlt
      have hall := has_all hTr.out
      have hHb := hid b1
      obtain ⟨K, hK⟩ : ∃ K, K = L.length := ⟨_, rfl⟩
      have hK60 : K ≤ 60 := by have := hL.out; omega
      rw [← hK] at hall
      have HK := hid hK
      clear hL hK b1 hi hin
      rcases hstop with h0 | ⟨h0, h0'⟩
      all_goals
        go_wp2_with fail
        refine hall.mono ?_
        rintro e w4 ⟨v0, rfl, o4, b4⟩
        obtain ⟨a4, c4, rfl⟩ := row_form o4
        have HT : Hid (HasG w1 P 1000 ([] ++ L.drop 0) (fun x => (Value.slice none 0 0).ownBlock = some x ∨ (Value.slice a4 K c4).ownBlock = some x) w4) := hid (hTr.out.more b4 (fun x hx => .inr (by
          rcases hx with e | e
          · simp [Value.ownBlock] at e
          · exact own_base_le o4 e)))
        have HB0 : Hid (w1.heap.size ≤ wr.heap.size ∧ wr.heap.size ≤ w4.heap.size ∧ ∀ b, (Value.slice a4 K c4).ownBlock = some b → b < w4.heap.size) := hid ⟨hTr.out.below.size, b4.size, fun b hb => (own_base_le o4 hb).2⟩
        have HO := hid o4
        clear hall o4 b4 hTr
        generalize wr.heap.size = B0 at *
        go_wp2_with fail
        go_loopw [9, 10] (fun p1 p2 wq => ∃ (j : Nat) (v : Value) (E : List Int), v = p1 ∧ p2 = .int .i64 j ∧ j ≤ K ∧ Hid (E.length ≤ j) ∧ Hid (wq.ownsRow w4.heap.size 28 1 v E.length (uc E)) ∧ Hid (wq.ownsRow B0 28 1 (.slice a4 K c4) K (uc L)) ∧ Hid (HasG w1 P 1000 (E ++ L.drop j) (fun x => v.ownBlock = some x ∨ (Value.slice a4 K c4).ownBlock = some x) wq) ∧ w4.heap.size ≤ wq.heap.size) (fun _ p _ => K - (RowKit.intOf p).toNat)
        case atStart => exact ⟨0, _, [], rfl, rfl, Nat.zero_le _, hid (Nat.zero_le _), hid (World.ownsRow_nil _ _ _ _), HO, HT, Nat.le_refl _⟩
        case round =>
          obtain ⟨j, v, E, rfl, rfl, hj, hE, hOl, hOw, hTr, hsz⟩ := hrel
          clear HT HO
          by_cases hlt : j < K
          · obtain ⟨x, hxj⟩ : ∃ x, L[j]? = some x := ⟨_, List.getElem?_eq_getElem (by rw [← HK.out]; exact hlt)⟩
            obtain ⟨g, cap, hv, -, -, -⟩ := row_pos hOw.out (by omega)
            cases hv
            have hcx := cel_of hOw.out j x hxj
            have hdr := drop_cons hxj
            have hxo : u64ok x := hTr.out.rng (List.mem_append_right _ (by rw [hdr]; exact List.mem_cons_self ..))
            have hnd := hTr.out.nd
            rw [hdr] at hnd
            have hT1 := hTr.out
            rw [hdr] at hT1
            have i1 : 0 ≤ (j : Int) := by omega
            have i2 : (j : Int) < (K : Int) := by omega
            have hxn : x ∉ E ++ L.drop (j + 1) := by
              rw [List.nodup_append, List.nodup_cons] at hnd
              obtain ⟨_, ⟨n1, _⟩, n2⟩ := hnd
              intro hm
              rcases List.mem_append.1 hm with hm | hm
              · exact n2 x hm x (List.mem_cons_self ..) rfl
              · exact n1 hm
            by_cases hfl : j < nb ∧ B j = true
            · obtain ⟨f1, f2⟩ := hfl
              obtain ⟨fb, fo, rfl, hfB, hfc⟩ := hY.out j f1
              have hfw := ((Below.then hHb.out hTr.out.below).cell (p := ⟨fb, fo + j, none⟩) hfB).trans hfc
              rw [f2] at hfw
              have hr1 := has_remove hT1 x hxo
              rw [decide_eq_true (List.mem_append_right _ (List.mem_cons_self ..)), rm_split hnd] at hr1
              have hE2 : Hid (E.length ≤ j + 1) := hid (Nat.le_trans hE.out (Nat.le_succ _))
              have HN := hid hxn
              have HXO := hid hxo
              have HXJ := hid hxj
              clear hfc f2 hdr hnd hT1 hxn hxo hxj hTr
              go_wp2_with fail
              refine hr1.mono ?_
              rintro e w5 ⟨rfl, h5, D1, d1, d2⟩
              have hl5 := own_only hOl.out d1 (fun b hb => d2 b (.inl hb))
              have hw5 := own_only hOw.out d1 (fun b hb => d2 b (.inr hb))
              have hz5 := d1.size
              have hcx5 := cel_of hw5 j x HXJ.out
              have hr2 := has_remove h5 x HXO.out
              rw [decide_eq_false HN.out, rm_no HN.out] at hr2
              have HL5 := hid hl5
              have HW5 := hid hw5
              clear hr1 h5 d1 d2 hl5 hw5 hcx hfw hOl hOw
              go_wp2_with fail
              refine hr2.mono ?_
              rintro e w6 ⟨rfl, h6, D2, d3, d4⟩
              have HL6 := hid (own_only HL5.out d3 (fun b hb => d4 b (.inl hb)))
              have HW6 := hid (own_only HW5.out d3 (fun b hb => d4 b (.inr hb)))
              have hz6 := d3.size
              have H6 := hid h6
              clear hr2 h6 d3 d4 HL5 HW5 hcx5
              go_wp2_with fail
              go_roundw
              case rel => exact ⟨j + 1, v, E, rfl, by go_num, by omega, hE2, HL6, HW6, H6, by omega⟩
              case measure => simp [RowKit.intOf] <;> omega
            · have hstop2 : (nb : Int) ≤ (j : Int) ∨ ((j : Int) < (nb : Int) ∧ B j = false) := by
                by_cases hq : j < nb
                · exact .inr ⟨by omega, by cases e : B j with | false => rfl | true => exact absurd ⟨hq, e⟩ hfl⟩
                · exact .inl (by omega)
              have hE2 : Hid ((E ++ [x]).length ≤ j + 1) := hid (by rw [List.length_append, List.length_singleton]; have := hE.out; omega)
              have HT1 : Hid (HasG w1 P 1000 ((E ++ [x]) ++ L.drop (j + 1)) (fun x => v.ownBlock = some x ∨ (Value.slice (some ⟨g, 0, none⟩) K c4).ownBlock = some x) wr) := hid (by rw [List.append_assoc]; exact hT1)
              have hil := hE.out
              have hsw := HB0.out.2.1
              have hol := hOl.out
              have hbb := hTr.out.below
              clear hfl hdr hnd hT1 hxn hxo hxj hTr
              rcases hstop2 with g0 | ⟨g0, g1⟩
              · go_wp2_with (at_builtin; refine wpList_append_own_at _ rfl _ _ 34 rfl w4.heap.size 28 i0 (.int .u64 0) 1 8 Try.underlying34 hi0 hz0 hz1 hz2 rfl (by decide) v _ _ rfl (hol.alloc _) ⟨wr.heap.size, 0, none⟩ 1 1 [.int .u64 x] rfl rfl (one_cell _ _ _) (one_u64 _) (by unfold maxLen; omega) (by omega) (by simp; omega) ?_; intro v6 w6 hown6 hgrow6 hnil6 hloc6)
                have hga := gone_append HT1.out hOl.out hOw.out HB0.out hgrow6 hown6 hloc6
                exact ⟨⟨j + 1, v6, E ++ [x], rfl, by go_num, by omega, hE2, hid (by rw [List.length_append, List.length_singleton, uc_snoc]; exact hown6), hid hga.2, hid hga.1, by have := hgrow6.size; simp at this; omega⟩, by simp [RowKit.intOf]; omega⟩
              · obtain ⟨fb, fo, rfl, hfB, hfc⟩ := hY.out j (by omega)
                have hfw := ((Below.then hHb.out hbb).cell (p := ⟨fb, fo + j, none⟩) hfB).trans hfc
                rw [g1] at hfw
                clear hfc
                go_wp2_with (at_builtin; refine wpList_append_own_at _ rfl _ _ 34 rfl w4.heap.size 28 i0 (.int .u64 0) 1 8 Try.underlying34 hi0 hz0 hz1 hz2 rfl (by decide) v _ _ rfl (hol.alloc _) ⟨wr.heap.size, 0, none⟩ 1 1 [.int .u64 x] rfl rfl (one_cell _ _ _) (one_u64 _) (by unfold maxLen; omega) (by omega) (by simp; omega) ?_; intro v6 w6 hown6 hgrow6 hnil6 hloc6)
                have hga := gone_append HT1.out hOl.out hOw.out HB0.out hgrow6 hown6 hloc6
                exact ⟨⟨j + 1, v6, E ++ [x], rfl, by go_num, by omega, hE2, hid (by rw [List.length_append, List.length_singleton, uc_snoc]; exact hown6), hid hga.2, hid hga.1, by have := hgrow6.size; simp at this; omega⟩, by simp [RowKit.intOf]; omega⟩
          · obtain rfl : j = K := by omega
            have hT1 := hTr.out
            have hdl : L.drop j = [] := by rw [HK.out, List.drop_length]
            rw [hdl, List.append_nil] at hT1
            clear hdl
            have hall2 := has_all hT1
            have hle2 := fun w5 (h5 : HasG w1 P 1000 E (fun x => v.ownBlock = some x ∨ (Value.slice a4 j c4).ownBlock = some x) w5) => has_len h5
            have hNE : E.length ≤ 60 := by have := hE.out; omega
            have hol := hOl.out
            obtain ⟨N, hN⟩ : ∃ N, N = E.length := ⟨_, rfl⟩
            rw [← hN] at hall2 hNE hol
            simp only [← hN] at hle2
            obtain ⟨a7, c7, rfl⟩ := row_form hol
            have HN := hid hN
            have HLE := hid hle2
            have HT1 := hid hT1
            have HOL := hid hol
            clear hN hle2 hTr hT1 hOl hol hE
            go_wp2_with fail
            refine hall2.mono ?_
            rintro e w5 ⟨v5, rfl, o5, b5⟩
            obtain ⟨a9, c9, rfl⟩ := row_form o5
            have hl5 := HLE.out w5 (HT1.out.after b5)
            have HB5 := hid (Below.then hHb.out (HT1.out.after b5).below)
            have HR5 := hid (own_below HOL.out b5)
            have HO5 := hid o5
            clear hall2 o5 b5 HLE HT1 HOL HB0 hOw hHb
            go_wp2_with fail
            refine hl5.mono ?_
            rintro e w6 ⟨rfl, rfl⟩
            clear hl5
            generalize wr.heap.size = B5 at *
            generalize w4.heap.size = B4 at *
            go_wp2_with fail
            go_loopw [12] (fun p wq => ∃ t : Nat, p = .int .i64 t ∧ t ≤ N ∧ Hid (Below w5.heap.size w5 wq)) (fun p _ => N - (RowKit.intOf p).toNat)
            case atStart => exact ⟨0, rfl, Nat.zero_le _, hid (Below.refl _ _)⟩
            case round =>
              obtain ⟨t, rfl, ht, hBq⟩ := hrel
              by_cases hlt3 : t < N
              · obtain ⟨z, hz⟩ : ∃ z, E[t]? = some z := ⟨_, List.getElem?_eq_getElem (by rw [← HN.out]; exact hlt3)⟩
                obtain ⟨g1, cap1, hv1, _, _, l1⟩ := row_pos HO5.out (by omega)
                obtain ⟨g2, cap2, hv2, _, _, l2⟩ := row_pos HR5.out (by omega)
                cases hv1
                cases hv2
                have e1 := (hBq.out.cell (p := ⟨g1, t, none⟩) l1).trans (cel_of HO5.out t z hz)
                have e2 := (hBq.out.cell (p := ⟨g2, t, none⟩) l2).trans (cel_of HR5.out t z hz)
                have i1 : 0 ≤ (t : Int) := by omega
                have i2 : (t : Int) < (N : Int) := by omega
                clear hz
                go_wp2_with fail
                go_quiet (fail)
                go_wp2_with fail
                go_roundw
                case rel => exact ⟨t + 1, by go_num, by omega, hid (drewn_below hBq.out _)⟩
                case measure => simp [RowKit.intOf] <;> omega
              · have HE := hid (Below.then HB5.out hBq.out)
                clear hBq
                go_wp2_with fail
                go_ret
                exact ⟨rfl, HE.out⟩
end Go.Proofs.Ytidcablgdbnddaa
