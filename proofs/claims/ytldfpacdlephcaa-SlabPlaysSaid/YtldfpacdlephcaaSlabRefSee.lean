/-
  The document's own answer for layer 7 (ambryref07) at this program: Where, Chunks and Counts, of any slab and any number: the calls. No conditions.
-/
import Derived.Test.YtldfpacdlephcaaSlabRefLook
namespace Go.Proofs.Ytldfpacdlephcaa
open Go Go.RowKit Go.Lib

theorem pages_cnt {s : Sl} (ok : s.Ok) (c : Nat) : ∀ n, n ≤ s.a.ow.length → (pagesTo s.a.ow (c : Int) n).length = s.cntP c n
  | 0, _ => rfl
  | n + 1, h => by
    have ih := pages_cnt ok c n (by omega)
    have h1 := isOf_page ok (c := c) (p := n) (by omega)
    show (if s.a.ow[n]? = some (c : Int) then pagesTo s.a.ow c n ++ [(n : Int)] else pagesTo s.a.ow c n).length = s.cntP c n + isOf c (s.cut n)
    by_cases e : s.a.ow[n]? = some (c : Int)
    · rw [if_pos e] at h1 ⊢
      rw [List.length_append, ih, ← h1]; rfl
    · rw [if_neg e] at h1 ⊢
      rw [ih, ← h1]; rfl
theorem cntP_more {s : Sl} (ok : s.Ok) (c : Nat) : ∀ m, s.cntP c (s.a.ow.length + m) = s.cntP c s.a.ow.length
  | 0 => rfl
  | m + 1 => by
    have ih := cntP_more ok c m
    have hn : s.cut (s.a.ow.length + m) = none := by
      cases hk : s.cut (s.a.ow.length + m) with
      | none => rfl
      | some k => have := ok.cut_lt hk; omega
    have h1 := (Sl.cnt_none (c := c) hn).1
    rw [show s.a.ow.length + (m + 1) = s.a.ow.length + m + 1 from rfl, h1, ih]
theorem pages_all {s : Sl} (ok : s.Ok) (c : Nat) : (pagesOf s.a.ow (c : Int)).length = s.cntP c 1024 := by
  have h1 := pages_cnt ok c _ (Nat.le_refl _)
  have h2 := cntP_more ok c (1024 - s.a.ow.length)
  have h3 := ok.ao.n2
  rw [show s.a.ow.length + (1024 - s.a.ow.length) = 1024 by omega] at h2
  rw [h2, ← h1]
  unfold pagesOf
  rw [if_pos (by omega)]

set_option maxHeartbeats 2000000 in
set_option maxRecDepth 100000 in
theorem ref_where {d : Dr} {s : Sl} {tk cl : List Nat} {w : World} (h : RM d (rf s tk cl) w) (ok : s.Ok) (ag : Ag s tk cl) (x : Int) :
    Calls Try.prog 43 #[.pointer (some ⟨d.P, 0, none⟩), .int .i64 x] w fun e w' => e = .returned (.tuple #[.int .i64 (s.wher x).1, .int .i64 (s.wher x).2.1, .int .i64 (s.wher x).2.2]) ∧ ∃ m, w' = w.drewN m := by
  have hu := ref_used h ok ag x
  rcases s.used_cases x with ⟨hn, _⟩ | ⟨y, rfl, hy, hb⟩
  · rw [wher_no hn]
    rw [hn] at hu
    clear h ok ag hn
    go_enter Try.func43, Try.ntmps43
    go_wp2_with fail
    refine hu.mono ?_
    rintro e w' ⟨rfl, rfl⟩
    clear hu
    go_wp2_with fail
    go_ret3
    exact ⟨rfl, 0, rfl⟩
  · obtain ⟨k, hk, hkt⟩ := Sl.usedN_true hy
    rw [wher_yes hy hk]
    rw [hb] at hu
    obtain ⟨k1, hkc, hul, k4⟩ := ok.ct _ k hk
    have hper := k4 _ hkt
    have hp := ok.cut_1024 hk
    have cC : ∀ n, Calls Try.prog 65 #[.pointer (some ⟨d.P, 0, none⟩), .int .i64 y] (w.drewN n) fun e w' => e = .returned (.int .i64 (k.cls : Int)) ∧ ∃ m, w' = w.drewN m := fun n =>
      (ref_class (h.drewN n) ok hk hper).mono fun _ _ ⟨he, m, hw⟩ => ⟨he, n + m, by rw [hw, World.drewN_drewN]⟩
    obtain ⟨hzc, hz1, hz2⟩ := ok.size hkc
    have c1 := h.h1
    have c2 := h.hz (f := rf s tk cl) hzc
    have es : (rf s tk cl).sz.length = s.sz.length := rfl
    rw [es] at c1
    have hs2 := ok.ao.s2
    have hpl := ok.per_le hkc
    have hUl := ok.U_le
    have hcl' : (k.cls : Int) < (s.sz.length : Int) := by omega
    have hc0 : (0 : Int) ≤ (k.cls : Int) := by omega
    have e1 : (y : Int) / 4096 = ((y / 4096 : Nat) : Int) := by omega
    have e0 : (y : Int) % 4096 = ((y % 4096 : Nat) : Int) := by omega
    obtain ⟨M, hM⟩ : ∃ M, M = y % 4096 * s.size k.cls := ⟨_, rfl⟩
    have hMb : M ≤ 67108864 := by rw [hM]; exact Nat.mul_le_mul (show y % 4096 ≤ 1024 by omega) (show s.size k.cls ≤ 65536 by omega)
    have e2 : ((y % 4096 : Nat) : Int) * (s.size k.cls : Int) = (M : Int) := by rw [hM, Int.natCast_mul]
    have hyb : y ≤ 4194304 := by omega
    rw [← hM]
    clear h ok ag hy hb hk hkt hper hM hzc hul hpl hUl k4 k1 hkc es
    generalize s.size k.cls = z at *
    generalize k.cls = c at *
    generalize s.sz.length = n at *
    generalize y / 4096 = p at *
    generalize y % 4096 = i at *
    go_enter Try.func43, Try.ntmps43
    go_wp2_with fail
    refine hu.mono ?_
    rintro e w' ⟨rfl, rfl⟩
    clear hu
    go_wp2_with fail
    go_quiet (exact cC _)
    clear cC
    go_wp2_with fail
    go_ret3
    exact ⟨rfl, _, rfl⟩

theorem ofPage_yes {l : List Nat} {z : Int} {k x : Nat} (h : l[k]? = some x) (e : ((x / 4096 : Nat) : Int) = z) : ofPage z (l.take (k + 1)) = ofPage z (l.take k) ++ [x] := by
  rw [List.take_add_one, h]
  unfold ofPage
  rw [List.filter_append]
  simp [← e]
theorem ofPage_no {l : List Nat} {z : Int} {k x : Nat} (h : l[k]? = some x) (e : ((x / 4096 : Nat) : Int) ≠ z) : ofPage z (l.take (k + 1)) = ofPage z (l.take k) := by
  rw [List.take_add_one, h]
  unfold ofPage
  rw [List.filter_append]
  have e2 : (((x / 4096 : Nat) : Int) == z) = false := by simpa using e
  simp only [Option.toList_some, List.filter_cons, e2, List.filter_nil, List.append_nil, Bool.false_eq_true, if_false]

set_option maxHeartbeats 2000000 in
set_option maxRecDepth 100000 in
theorem ref_chunks {d : Dr} {s : Sl} {tk cl : List Nat} {w : World} (h : RM d (rf s tk cl) w) (ok : s.Ok) (ag : Ag s tk cl) (z : Int) :
    Calls Try.prog 42 #[.pointer (some ⟨d.P, 0, none⟩), .int .i64 z] w fun e w' => ∃ v, e = .returned v ∧ w'.ownsRow w.heap.size 3 1 v (s.chunks z).length (nc (s.chunks z)) ∧ Below w.heap.size w w' := by
  obtain ⟨i0, hi, hz0, hz1, hz2⟩ := info_parts infoInt
  have htr := h.row (rf s tk cl).sz.length (by omega)
  have et : (rf s tk cl).rows (rf s tk cl).sz.length = tk := rf_tk s tk cl
  rw [et] at htr
  have HE := hid (ofPage_to ok ag z)
  have hTl := ag.tlen ok
  have HB4 : Hid (∀ x ∈ tk, x < 4194304) := hid (fun x hx => by
    obtain ⟨k, hk, _⟩ := Sl.usedN_true ((ag.mem x).1 hx)
    have := ok.cut_1024 hk
    omega)
  obtain ⟨t3, -⟩ := h.h3
  have lP := h.head.lt
  obtain ⟨a, c, hv⟩ := row_form htr
  rw [hv] at t3 htr
  have HR : Hid (∀ (i x : Nat), tk[i]? = some x → ∃ g, a = some ⟨g, 0, none⟩ ∧ g < w.heap.size ∧ w.cell? ⟨g, i, none⟩ = some (.int .i64 (x : Int))) := hid (fun i x hx => by
    obtain ⟨g, c2, e, _, h1, _⟩ := own_cell htr hx
    cases e
    exact ⟨g, rfl, cell_lt h1, h1⟩)
  obtain ⟨L, hL⟩ : ∃ L, L = tk.length := ⟨_, rfl⟩
  rw [← hL] at hTl t3
  have HL := hid hL
  rw [← HE.out]
  clear h ok ag htr et hv hL HE
  go_enter Try.func42, Try.ntmps42
  go_wp2_with fail
  go_loopw [5, 6] (fun o i wr => ∃ k : Nat, k ≤ L ∧ i = .int .i64 k ∧ wr.ownsRow w.heap.size 3 1 o (ofPage z (tk.take k)).length (nc (ofPage z (tk.take k))) ∧ Below w.heap.size w wr) (fun _ i _ => L - (intOf i).toNat)
  case atStart => exact ⟨0, Nat.zero_le _, rfl, World.ownsRow_nil _ _ _ _, Below.refl _ _⟩
  case round =>
    obtain ⟨k, hk, rfl, ho, hb⟩ := hrel
    have hsz := hb.size
    have hwl : (ofPage z (tk.take k)).length ≤ (tk.take k).length := List.length_filter_le _ _
    rw [List.length_take] at hwl
    have hwl : (ofPage z (tk.take k)).length ≤ 4200000 := by omega
    obtain ⟨oa, oc, rfl⟩ := row_form ho
    have t3' := (hb.cell (p := ⟨d.P, 3, none⟩) lP).trans t3
    by_cases hlt : k < L
    · have ilt : (k : Int) < (L : Int) := by omega
      obtain ⟨x, hx⟩ : ∃ x, tk[k]? = some x := ⟨_, List.getElem?_eq_getElem (by rw [← HL.out]; exact hlt)⟩
      obtain ⟨g, rfl, hg, hc⟩ := HR.out k x hx
      have hc' : wr.cell? ⟨g, k, none⟩ = some (.int .i64 (x : Int)) := (hb.cell (p := ⟨g, k, none⟩) hg).trans hc
      have hx4 := HB4.out x (List.mem_of_getElem? hx)
      have e1 : (x : Int) / 4096 = ((x / 4096 : Nat) : Int) := by omega
      by_cases e : ((x / 4096 : Nat) : Int) = z
      · have HE : Hid (ofPage z (tk.take (k + 1)) = ofPage z (tk.take k) ++ [x]) := hid (ofPage_yes hx e)
        generalize x / 4096 = q at *
        subst e
        clear hx HR HL HB4 hc t3
        go_wp2_with (at_builtin; refine wpList_append_own _ rfl _ _ 22 rfl w.heap.size 3 i0 (.int .i64 0) 1 8 Try.underlying22 hi hz0 hz1 hz2 rfl (by decide) _ _ _ rfl (ho.alloc _) ⟨wr.heap.size, 0, none⟩ 1 1 [.int .i64 (x : Int)] rfl rfl (one_cell _ _ _) (one_ok _) (by unfold maxLen; omega) (by omega) (by simp; omega) ?_)
        intro v' w1 hown' hgrow _
        have hb2 := hb.trans (own_grown ho hsz hgrow)
        have ho2 : w1.ownsRow w.heap.size 3 1 v' (ofPage (q : Int) (tk.take (k + 1))).length (nc (ofPage (q : Int) (tk.take (k + 1)))) := by
          rw [HE.out, ← nc_app, List.length_append]; exact hown'
        clear hown' hgrow ho hb hc' t3'
        go_wp2_with fail
        go_roundw
        case rel => exact ⟨k + 1, by omega, by go_num, ho2, hb2⟩
        case measure => simp [intOf] <;> omega
      · have HE : Hid (ofPage z (tk.take (k + 1)) = ofPage z (tk.take k)) := hid (ofPage_no hx e)
        have hne : (((x / 4096 : Nat) : Int) == z) = false := by simpa using e
        generalize x / 4096 = q at *
        clear hx HR HL HB4 hc e t3
        go_wp2_with fail
        go_roundw
        case rel => exact ⟨k + 1, by omega, by go_num, by rw [HE.out]; exact ho, hb⟩
        case measure => simp [intOf] <;> omega
    · obtain rfl : k = L := by omega
      have ho2 : wr.ownsRow w.heap.size 3 1 (.slice oa (ofPage z (tk.take k)).length oc) (ofPage z tk).length (nc (ofPage z tk)) := by
        have e : tk.take k = tk := by rw [HL.out, List.take_length]
        rw [e] at ho ⊢; exact ho
      clear HR HL HB4 ho t3
      go_wp2_with fail
      go_ret
      exact ⟨_, rfl, ho2, hb⟩

theorem ofCls_yes {s : Sl} {l : List Nat} {c k x : Nat} (h : l[k]? = some x) (e : clsAt s x = c) : (ofCls s c (l.take (k + 1))).length = (ofCls s c (l.take k)).length + 1 := by
  rw [List.take_add_one, h, ofCls_app]
  unfold ofCls
  simp [e]
theorem ofCls_no {s : Sl} {l : List Nat} {c k x : Nat} (h : l[k]? = some x) (e : clsAt s x ≠ c) : (ofCls s c (l.take (k + 1))).length = (ofCls s c (l.take k)).length := by
  rw [List.take_add_one, h, ofCls_app]
  unfold ofCls
  simp [e]

set_option maxHeartbeats 4000000 in
set_option maxRecDepth 100000 in
theorem ref_counts {d : Dr} {s : Sl} {tk cl : List Nat} {w : World} (h : RM d (rf s tk cl) w) (ok : s.Ok) (ag : Ag s tk cl) (z : Int) :
    Calls Try.prog 45 #[.pointer (some ⟨d.P, 0, none⟩), .int .i64 z] w fun e w' => e = .returned (.tuple #[.int .i64 (s.counts z).1, .int .i64 (s.counts z).2.1, .int .i64 (s.counts z).2.2]) ∧ Below w.heap.size w w' := by
  have c1 := h.h1
  have c2 := h.h2
  have c0 := h.h0
  have es : (rf s tk cl).sz.length = s.sz.length := rfl
  rw [es] at c1 c2
  unfold Sl.counts
  rcases s.class_cases z with ⟨hb, hcase⟩ | ⟨c, rfl, hc, hb⟩
  · rw [hb, if_neg (by decide)]
    have HB := hid (Below.refl w.heap.size w)
    clear h ok ag hb c0 c2 es
    generalize s.sz.length = n at *
    generalize d.P = P at *
    generalize d.Z = Z at *
    generalize d.cZ = cz at *
    rcases hcase with g1 | ⟨g1, g2⟩
    · go_enter Try.func45, Try.ntmps45
      go_wp2_with fail
      go_ret3
      exact ⟨rfl, HB.out⟩
    · have g3 : ¬ z < 0 := by omega
      go_enter Try.func45, Try.ntmps45
      go_wp2_with fail
      go_ret3
      exact ⟨rfl, HB.out⟩
  · rw [hb, if_pos rfl, Int.toNat_natCast]
    have q1 : (c : Int) < (s.sz.length : Int) := by omega
    obtain ⟨cr, -⟩ := h.hr (c := c) hc
    have hown := h.row c (by show c < s.sz.length + 2; omega)
    rw [rf_row hc] at hown
    obtain ⟨ra, rc, hrv⟩ := row_form hown
    rw [hrv] at cr
    have htr := h.row (rf s tk cl).sz.length (by omega)
    have et : (rf s tk cl).rows (rf s tk cl).sz.length = tk := rf_tk s tk cl
    rw [et] at htr
    have hTl := ag.tlen ok
    have hn63 := ok.n2
    obtain ⟨t3, -⟩ := h.h3
    obtain ⟨a, tc, hv⟩ := row_form htr
    rw [hv] at t3 htr
    have HR : Hid (∀ (i x : Nat), tk[i]? = some x → ∃ g, a = some ⟨g, 0, none⟩ ∧ w.cell? ⟨g, i, none⟩ = some (.int .i64 (x : Int))) := hid (fun i x hx => by
      obtain ⟨g, c2, e, _, h1, _⟩ := own_cell htr hx
      cases e
      exact ⟨g, rfl, h1⟩)
    obtain ⟨L, hL⟩ : ∃ L, L = tk.length := ⟨_, rfl⟩
    rw [← hL] at hTl t3
    have HL := hid hL
    have HCL : Hid (∀ x ∈ tk, ∃ kc : Nat, kc = clsAt s x ∧ x < 4194304 ∧ ∀ n, Calls Try.prog 65 #[.pointer (some ⟨d.P, 0, none⟩), .int .i64 x] (w.drewN n) fun e w' => e = .returned (.int .i64 (kc : Int)) ∧ ∃ m, w' = w.drewN m) := hid (fun x hx => by
      obtain ⟨k, hk, hkt⟩ := Sl.usedN_true ((ag.mem x).1 hx)
      have hp := ok.cut_1024 hk
      refine ⟨k.cls, (clsAt_is hk).symm, by omega, fun n => ?_⟩
      exact (ref_class (h.drewN n) ok hk ((ok.ct _ k hk).2.2.2 _ hkt)).mono fun _ _ ⟨he, m, hw⟩ => ⟨he, n + m, by rw [hw, World.drewN_drewN]⟩)
    have hpg := fun n => ref_pages (h.drewN n).ar (c : Int)
    have ea : (rf s tk cl).a = s.a := rfl
    have hpl := pages_all ok c
    rw [ea] at hpg
    have HU : Hid ((ofCls s c tk).length = s.cntU c 1024) := hid (by
      have h1 := ag.is ok
      have h2 := ofCls_to ok c 1024
      rw [← h1] at h2; exact h2)
    have hcp := s.cntP_le c 1024
    rw [← hpl] at hcp ⊢
    rw [← HU.out]
    obtain ⟨U, hUU⟩ : ∃ U, (ofCls s c tk).length = U := ⟨_, rfl⟩
    rw [hUU]
    have HUU := hid hUU
    have q2 : decide (s.sz.length ≤ c) = false := by rw [decide_eq_false_iff_not]; omega
    clear hUU
    obtain ⟨pg, hpgE⟩ : ∃ pg, pg = pagesOf s.a.ow (c : Int) := ⟨_, rfl⟩
    rw [← hpgE] at hpg hcp ⊢
    have lP := h.head.lt
    have lR := h.rws.lt
    clear h ok ag hb htr et hv hL hown hrv es ea hpl HU hpgE
    generalize (s.rows c).length = rn at *
    go_enter Try.func45, Try.ntmps45
    go_wp2_with fail
    go_loopw [7, 8] (fun u i wr => ∃ k : Nat, k ≤ L ∧ i = .int .i64 k ∧ u = .int .i64 ((ofCls s c (tk.take k)).length : Nat) ∧ ∃ m, wr = w.drewN m) (fun _ i _ => L - (intOf i).toNat)
    case atStart => exact ⟨0, Nat.zero_le _, rfl, rfl, 0, rfl⟩
    case round =>
      obtain ⟨k, hk, rfl, rfl, m, rfl⟩ := hrel
      have hwl : (ofCls s c (tk.take k)).length ≤ (tk.take k).length := List.length_filter_le _ _
      rw [List.length_take] at hwl
      have hwl : (ofCls s c (tk.take k)).length ≤ 4200000 := by omega
      by_cases hlt : k < L
      · have ilt : (k : Int) < (L : Int) := by omega
        obtain ⟨x, hx⟩ : ∃ x, tk[k]? = some x := ⟨_, List.getElem?_eq_getElem (by rw [← HL.out]; exact hlt)⟩
        obtain ⟨g, rfl, hcx⟩ := HR.out k x hx
        obtain ⟨kc, hkc, hx4, hcl⟩ := HCL.out x (List.mem_of_getElem? hx)
        have hcl := hcl m
        by_cases e : kc = c
        · have HE : Hid ((ofCls s c (tk.take (k + 1))).length = (ofCls s c (tk.take k)).length + 1) := hid (ofCls_yes hx (by rw [← hkc]; exact e))
          subst e
          clear hx hkc HR HL HCL hpg
          generalize (ofCls s kc (tk.take k)).length = u0 at *
          go_wp2_with fail
          refine hcl.mono ?_
          rintro e w' ⟨rfl, m', rfl⟩
          clear hcl
          go_wp2_with fail
          go_roundw
          case rel => exact ⟨k + 1, by omega, by go_num, by rw [HE.out]; go_num, _, rfl⟩
          case measure => simp [intOf] <;> omega
        · have HE : Hid ((ofCls s c (tk.take (k + 1))).length = (ofCls s c (tk.take k)).length) := hid (ofCls_no hx (by rw [← hkc]; exact e))
          have hne : ((kc : Int) == (c : Int)) = false := beq_eq_false_iff_ne.2 (by omega)
          clear hx hkc HR HL HCL hpg e
          generalize (ofCls s c (tk.take k)).length = u0 at *
          go_wp2_with fail
          refine hcl.mono ?_
          rintro e w' ⟨rfl, m', rfl⟩
          clear hcl
          go_wp2_with fail
          go_roundw
          case rel => exact ⟨k + 1, by omega, by go_num, by rw [HE.out], _, rfl⟩
          case measure => simp [intOf] <;> omega
      · obtain rfl : k = L := by omega
        have e : tk.take k = tk := by rw [HL.out, List.take_length]
        rw [e, HUU.out] at hwl ⊢
        clear HR HL HCL e HUU
        have hp1 := hpg (m + 1)
        have HB : Hid (Below w.heap.size w (w.drewN (m + 1))) := hid (drewN_below w (m + 1))
        have hcp' : (pg.length : Int) ≤ 1024 := by omega
        clear hpg c1
        go_wp2_with fail
        go_region_held3 (fun w' => w'.cell? ⟨d.P, 0, none⟩ = some (.pointer (some ⟨d.A, 0, none⟩)) ∧ w'.cell? ⟨d.P, 2, none⟩ = some (.slice (some ⟨d.R, 0, none⟩) s.sz.length s.sz.length) ∧ w'.cell? ⟨d.R, c, none⟩ = some (.slice ra rn rc)) (first | exact ⟨j0, j2, jr⟩ | exact ⟨c0, c2, cr⟩) (first
          | (go_at_call 70; refine hp1.mono ?_; rintro e w4 ⟨v, rfl, hown, hB⟩; obtain ⟨va, vc, rfl⟩ := row_form hown; have j0 := (hB.cell (p := ⟨d.P, 0, none⟩) lP).trans c0; have j2 := (hB.cell (p := ⟨d.P, 2, none⟩) lP).trans c2; have jr := (hB.cell (p := ⟨d.R, c, none⟩) lR).trans cr; have HF := hid (Below.then HB.out hB); clear hown hB))
        all_goals
          clear c0 c2 cr j0 j2 jr lP lR hp1
          go_wp2_with fail
          go_ret3
          exact ⟨rfl, HF.out⟩
end Go.Proofs.Ytldfpacdlephcaa
