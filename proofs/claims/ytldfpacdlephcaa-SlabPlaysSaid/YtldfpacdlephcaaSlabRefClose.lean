/-
  The document's own answer for layer 7 (ambryref07) at this program: Close, of any slab and any number. No conditions.
-/
import Derived.Test.YtldfpacdlephcaaSlabRefFree
namespace Go.Proofs.Ytldfpacdlephcaa
open Go Go.RowKit Go.Lib

theorem owner_none {s : Sl} (ok : s.Ok) {z : Int} (h : s.atP z = none) : ownerOf s.a.ow z = -1 := by
  by_cases h0 : z < 0
  · exact ownerOf_out (.inl h0)
  · obtain ⟨q, rfl⟩ : ∃ q : Nat, z = q := ⟨z.toNat, by omega⟩
    rw [s.atP_nat] at h
    by_cases h1 : q < s.a.ow.length
    · exact ownerOf_at (ok.no q h h1)
    · exact ownerOf_out (.inr (by omega))
theorem setCut_used {s : Sl} {p : Nat} {k k' : Ct} (hk : s.cut p = some k) (hu : k'.used = k.used) (x : Nat) : (s.setCut p k').usedN x = s.usedN x := by
  by_cases e : x / 4096 = p
  · have hc : (s.setCut p k').cut (x / 4096) = some k' := by rw [e]; exact upd_same _ _ _
    have hy : s.cut (x / 4096) = some k := by rw [e]; exact hk
    unfold Sl.usedN
    rw [hc, hy]
    show k'.used.getD _ _ = k.used.getD _ _
    rw [hu]
  · have hc : (s.setCut p k').cut (x / 4096) = s.cut (x / 4096) := upd_ne _ _ e
    unfold Sl.usedN
    rw [hc]
theorem Ag.close {s : Sl} {tk cl : List Nat} (h : Ag s tk cl) {p : Nat} {k : Ct} (hk : s.cut p = some k) (hc : k.closed = false) : Ag (s.shut p k) tk (cl ++ [p]) := by
  have hp : p ∉ cl := fun hp => by
    obtain ⟨k2, hk2, hc2⟩ := (h.cls p).1 hp
    rw [hk] at hk2
    cases hk2
    rw [hc] at hc2; cases hc2
  refine ⟨h.srt, fun x => (h.mem x).trans (by rw [show (s.shut p k).usedN x = s.usedN x from setCut_used (k' := k.shut true) hk rfl x]), fun q => ?_, ?_⟩
  · show q ∈ cl ++ [p] ↔ ∃ k', upd s.cut p (some (k.shut true)) q = some k' ∧ k'.closed = true
    rw [List.mem_append, List.mem_singleton, h.cls q]
    by_cases e : q = p
    · subst e
      rw [upd_same]
      exact ⟨fun _ => ⟨_, rfl, rfl⟩, fun _ => .inr rfl⟩
    · rw [upd_ne _ _ e]
      exact ⟨fun h => h.elim id (fun h => (e h).elim), .inl⟩
  · rw [List.nodup_append]
    exact ⟨h.cnd, by simp, fun a ha b hb e => hp (by rw [List.mem_singleton.1 hb] at e; rw [← e]; exact ha)⟩
theorem keep_yes {l : List Nat} {p k x : Nat} (h : l[k]? = some x) (e : x / 4096 ≠ p) : keep p (l.take (k + 1)) = keep p (l.take k) ++ [x] := by
  rw [List.take_add_one, h]
  unfold keep
  rw [List.filter_append]
  simp [other, e]
theorem keep_no {l : List Nat} {p k x : Nat} (h : l[k]? = some x) (e : x / 4096 = p) : keep p (l.take (k + 1)) = keep p (l.take k) := by
  rw [List.take_add_one, h]
  unfold keep
  rw [List.filter_append]
  simp [other, e]

theorem app_only2 {w w1 : World} {tmp : Obj} {v : Value} (h : (w.alloc tmp).grownBy w1 v.ownBlock) : Only (fun b => v.ownBlock = some b) w w1 :=
  app_only (tmp := tmp) ⟨h.os, h.tape, h.output, h.size, h.block⟩

set_option maxHeartbeats 2000000 in
set_option maxRecDepth 100000 in
theorem ref_close_no {d : Dr} {s : Sl} {tk cl : List Nat} {w : World} (h : RM d (rf s tk cl) w) (ok : s.Ok) (ag : Ag s tk cl) (z : Int) (hz : s.atP z = none ∨ hasB cl z = true) :
    Calls Try.prog 37 #[.pointer (some ⟨d.P, 0, none⟩), .int .i64 z] w fun e w' => e = .returned (.int .i64 7) ∧ w = w' := by
  have ho := ref_owner h.ar z
  have ea : (rf s tk cl).a = s.a := rfl
  rw [ea] at ho
  have hr := h.row (s.sz.length + 1) (by show s.sz.length + 1 < s.sz.length + 2; omega)
  have e : (rf s tk cl).rows (s.sz.length + 1) = cl := rf_cl s _ cl
  rw [e] at hr
  have hh := ref_has hr (Nat.le_trans (ag.clen ok) (by decide)) z
  have c0 := h.h0
  obtain ⟨c4, -⟩ := h.h4
  have es : (rf s tk cl).sz.length = s.sz.length := rfl
  obtain ⟨a, c, hv⟩ := row_form hr
  rw [es, hv] at c4
  rw [hv] at hh
  have hsg : (ownerOf s.a.ow z < 0) ∨ (0 ≤ ownerOf s.a.ow z ∧ hasB cl z = true) := by
    rcases hz with hz | hz
    · exact .inl (by rw [owner_none ok hz]; decide)
    · by_cases h0 : ownerOf s.a.ow z < 0
      · exact .inl h0
      · exact .inr ⟨by omega, hz⟩
  clear h ok ag hz hr hv e ea es
  generalize ownerOf s.a.ow z = y at *
  generalize hasB cl z = b at *
  generalize cl.length = nl at *
  rcases hsg with g1 | ⟨g1, rfl⟩
  all_goals
    go_enter Try.func37, Try.ntmps37
    go_wp2_with fail
    refine ho.mono ?_
    rintro e w' ⟨rfl, rfl⟩
    clear ho
    go_wp2_with fail
    refine hh.mono ?_
    rintro e w' ⟨rfl, rfl⟩
    clear hh
    go_wp2_with fail
    go_ret
    exact ⟨rfl, rfl⟩

set_option maxHeartbeats 8000000 in
set_option maxRecDepth 100000 in
theorem ref_close_yes {d : Dr} {s : Sl} {tk cl : List Nat} {w : World} (h : RM d (rf s tk cl) w) (ok : s.Ok) (ag : Ag s tk cl) {p : Nat} {k : Ct} (hk : s.cut p = some k) (hc : k.closed = false) (hhb : hasB cl (p : Int) = false) :
    Calls Try.prog 37 #[.pointer (some ⟨d.P, 0, none⟩), .int .i64 p] w fun e w' => e = .returned (.int .i64 0) ∧ RGo d s tk cl w (s.shut p k) w' := by
  obtain ⟨i0, hi0, hz0, hz1, hz2⟩ := info_parts infoInt
  obtain ⟨k1, hkc, hul, k4⟩ := ok.ct _ k hk
  have hp := ok.cut_1024 hk
  have ho := ref_owner h.ar (p : Int)
  have eo : ownerOf (rf s tk cl).a.ow (p : Int) = (k.cls : Int) := ownerOf_at k1
  rw [eo] at ho
  have hr := h.row (s.sz.length + 1) (by show s.sz.length + 1 < s.sz.length + 2; omega)
  have e : (rf s tk cl).rows (s.sz.length + 1) = cl := rf_cl s _ cl
  rw [e] at hr
  have hcl := ag.clen ok
  have hh := ref_has hr (Nat.le_trans hcl (by decide)) (p : Int)
  rw [hhb] at hh
  have c0 := h.h0
  obtain ⟨c4, f4⟩ := h.h4
  have es : (rf s tk cl).sz.length = s.sz.length := rfl
  obtain ⟨a, cp, hv⟩ := row_form hr
  rw [es, hv] at c4
  rw [hv] at hh
  have lP := h.head.lt
  have nP : (d.rv (s.sz.length + 1)).ownBlock ≠ some d.P := fun e => by
    obtain ⟨cs, hB⟩ := own_blk hr e
    exact hB.ne h.head (by decide) rfl
  have hrl := ok.row_len hkc
  have HG : Hid (∀ x ∈ s.rows k.cls, x < 4194304) := hid (fun x hx => by
    obtain ⟨k2, hk2, _⟩ := ok.rw k.cls x hkc hx
    have := ok.cut_1024 hk2
    omega)
  have HAG := hid (ag.close hk hc)
  have H := hid h
  have HV := hid hv
  have HKC := hid hkc
  have hkc1 : (k.cls : Int) < (s.sz.length : Int) := by omega
  have hkc0 : ¬ (k.cls : Int) < 0 := by omega
  rw [hv] at hr nP
  have HR := hid hr
  clear h ok ag hk hc hhb eo e es hv k1 hul k4 hr hkc
  generalize hNL : cl.length = nl at *
  have HNL := hid hNL
  clear hNL
  go_enter Try.func37, Try.ntmps37
  go_wp2_with fail
  refine ho.mono ?_
  rintro e w' ⟨rfl, rfl⟩
  clear ho
  go_wp2_with fail
  refine hh.mono ?_
  rintro e w' ⟨rfl, rfl⟩
  clear hh
  go_wp2_with (at_builtin; refine wpList_append_lies _ rfl _ _ _ rfl 0 3 i0 (.int .i64 0) 1 8 Try.underlying22 hi0 hz0 hz1 hz2 rfl (by decide) (.slice a nl cp) nl (nc cl) rfl (HR.out.alloc _) ⟨w.heap.size, 0, none⟩ 1 1 [.int .i64 (p : Int)] rfl rfl (one_cell _ _ _) (one_ok _) (by omega) (by unfold maxLen; omega) (by omega) (by simp) (w.heap.size + 1) (by simp) ?_; intro g cap w1 hown1 hgrow hat hlt; have e4 := (hgrow.cell_far ⟨d.P, 4, none⟩ (by simp; omega) (Ne.symm nP)).trans (cell_alloc c4 _); have ef := (hgrow.frozen_far ⟨d.P, 4, none⟩ (by simp; omega) (Ne.symm nP)).trans ((World.frozen?_alloc_past _ d.P 4 lP).trans f4))
  obtain ⟨W2, hW2⟩ : ∃ W2, W2 = w1.setCell ⟨d.P, 4, none⟩ (.slice (some ⟨g, 0, none⟩) (nl + 1) cap) := ⟨_, rfl⟩
  have hown2 : w1.ownsRow 0 3 1 (.slice (some ⟨g, 0, none⟩) (nl + 1) cap) (cl ++ [p]).length (nc (cl ++ [p])) := by
    have e : (cl ++ [p]).length = nl + 1 := by rw [List.length_append, HNL.out]; rfl
    rw [e, ← nc_app]; exact hown1
  obtain ⟨d2, hP2, hR2, hS⟩ := RStp.cl H.out (v := .slice (some ⟨g, 0, none⟩) (nl + 1) cap) (by rw [HV.out]; exact app_only2 hgrow) hown2 (fun b hb => by
    have e : g = b := by simpa [Value.ownBlock] using hb
    rw [HV.out]
    rcases hat with h | h
    · exact .inl (e ▸ h)
    · exact .inr (by omega))
  rw [← hW2] at hS ⊢
  clear hown1 hgrow hat hown2 e4 ef nP HR hW2 HV c4 f4 c0 H hlt lP
  have c2 := hS.m.h2
  have es : (rf s tk (cl ++ [p])).sz.length = s.sz.length := rfl
  rw [es, hP2] at c2
  obtain ⟨cr, fr⟩ := hS.m.hr (c := k.cls) HKC.out
  have hown := hS.m.row k.cls (by show k.cls < s.sz.length + 2; have := HKC.out; omega)
  rw [rf_row HKC.out] at hown
  obtain ⟨ra, rc, hrv⟩ := row_form hown
  rw [hrv] at cr
  have lP := hS.m.head.lt
  rw [hP2] at lP
  have lR := hS.m.rws.lt
  have HRW : Hid (∀ (i x : Nat), (s.rows k.cls)[i]? = some x → ∃ g, ra = some ⟨g, 0, none⟩ ∧ g < W2.heap.size ∧ W2.cell? ⟨g, i, none⟩ = some (.int .i64 (x : Int))) := hid (fun i x hx => by
    rw [hrv] at hown
    obtain ⟨g, c2, e, _, h1, _⟩ := own_cell hown hx
    cases e
    exact ⟨g, rfl, cell_lt h1, h1⟩)
  have HF : Hid (∀ (v : Value) (w3 : World), w3.ownsRow W2.heap.size 3 1 v (keep p (s.rows k.cls)).length (nc (keep p (s.rows k.cls))) → Below W2.heap.size W2 w3 → RGo d s tk cl w (s.shut p k) (w3.setCell ⟨d2.R, k.cls, none⟩ v)) := hid (fun v w3 ho hB => by
    have h1 := RStp.fresh hS.m (c := k.cls) (by show k.cls < s.sz.length + 2; have := HKC.out; omega) hB ho
    have e3 : rowAt d2 (rf s tk (cl ++ [p])).sz.length k.cls = ⟨d2.R, k.cls, none⟩ := rowAt_row HKC.out
    rw [e3, rf_setRow HKC.out] at h1
    have e4 : rf (s.setRow k.cls (keep p (s.rows k.cls))) tk (cl ++ [p]) = rf (s.shut p k) tk (cl ++ [p]) := rfl
    rw [e4] at h1
    exact ⟨_, _, _, hS.trans h1, HAG.out⟩)
  obtain ⟨L, hL⟩ : ∃ L, L = (s.rows k.cls).length := ⟨_, rfl⟩
  rw [← hL] at hrl cr
  have HL := hid hL
  clear hS es hown hrv hP2 hR2 HNL HAG hL
  go_wp2_with fail
  go_loopw [7, 8] (fun o i wr => ∃ j : Nat, j ≤ L ∧ i = .int .i64 j ∧ wr.ownsRow W2.heap.size 3 1 o (keep p ((s.rows k.cls).take j)).length (nc (keep p ((s.rows k.cls).take j))) ∧ Below W2.heap.size W2 wr) (fun _ i _ => L - (intOf i).toNat)
  case atStart => exact ⟨0, Nat.zero_le _, rfl, World.ownsRow_nil _ _ _ _, Below.refl _ _⟩
  case round =>
    obtain ⟨j, hj, rfl, hol, hb⟩ := hrel
    have hsz := hb.size
    have hwl := keep_len p ((s.rows k.cls).take j)
    rw [List.length_take] at hwl
    have hwl : (keep p ((s.rows k.cls).take j)).length ≤ 4200000 := by omega
    obtain ⟨oa, oc, rfl⟩ := row_form hol
    have c2' := (hb.cell (p := ⟨d.P, 2, none⟩) lP).trans c2
    have cr' := (hb.cell (p := ⟨d2.R, k.cls, none⟩) lR).trans cr
    have fr' := (hb.frozen (p := ⟨d2.R, k.cls, none⟩) lR).trans fr
    by_cases hlt : j < L
    · have ilt : (j : Int) < (L : Int) := by omega
      obtain ⟨x, hx⟩ : ∃ x, (s.rows k.cls)[j]? = some x := ⟨_, List.getElem?_eq_getElem (by rw [← HL.out]; exact hlt)⟩
      obtain ⟨g2, rfl, hg, hcx⟩ := HRW.out j x hx
      have hc' : wr.cell? ⟨g2, j, none⟩ = some (.int .i64 (x : Int)) := (hb.cell (p := ⟨g2, j, none⟩) hg).trans hcx
      have hx4 := HG.out x (List.mem_of_getElem? hx)
      have e1 : (x : Int) / 4096 = ((x / 4096 : Nat) : Int) := by omega
      by_cases e : x / 4096 = p
      · have HE : Hid (keep p ((s.rows k.cls).take (j + 1)) = keep p ((s.rows k.cls).take j)) := hid (keep_no hx e)
        generalize x / 4096 = q at *
        subst e
        clear hx HRW HL HG HF hcx c2 cr fr fr'
        go_wp2_with fail
        go_roundw
        case rel => exact ⟨j + 1, by omega, by go_num, by rw [HE.out]; exact hol, hb⟩
        case measure => simp [intOf] <;> omega
      · have HE : Hid (keep p ((s.rows k.cls).take (j + 1)) = keep p ((s.rows k.cls).take j) ++ [x]) := hid (keep_yes hx e)
        have hne : (((x / 4096 : Nat) : Int) != (p : Int)) = true := by simp; omega
        generalize x / 4096 = q at *
        clear hx HRW HL HG HF hcx e c2 cr fr fr'
        go_wp2_with (at_builtin; refine wpList_append_own _ rfl _ _ 22 rfl W2.heap.size 3 i0 (.int .i64 0) 1 8 Try.underlying22 hi0 hz0 hz1 hz2 rfl (by decide) _ _ _ rfl (hol.alloc _) ⟨wr.heap.size, 0, none⟩ 1 1 [.int .i64 (x : Int)] rfl rfl (one_cell _ _ _) (one_ok _) (by unfold maxLen; omega) (by omega) (by simp; omega) ?_)
        intro v' w4 hown' hgrow _
        have hb2 := hb.trans (own_grown hol hsz hgrow)
        have ho2 : w4.ownsRow W2.heap.size 3 1 v' (keep p ((s.rows k.cls).take (j + 1))).length (nc (keep p ((s.rows k.cls).take (j + 1)))) := by
          rw [HE.out, ← nc_app, List.length_append]; exact hown'
        clear hown' hgrow hol hb hc' c2' cr'
        go_wp2_with fail
        go_roundw
        case rel => exact ⟨j + 1, by omega, by go_num, ho2, hb2⟩
        case measure => simp [intOf] <;> omega
    · obtain rfl : j = L := by omega
      have hfin := HF.out (.slice oa (keep p ((s.rows k.cls).take j)).length oc) wr (by
        have e : (s.rows k.cls).take j = s.rows k.cls := by rw [HL.out, List.take_length]
        rw [e] at hol ⊢; exact hol) hb
      clear HRW HL HG HF hol hb c2 cr fr
      go_wp2_with fail
      go_ret
      exact ⟨rfl, hfin⟩

theorem ref_close {d : Dr} {s : Sl} {tk cl : List Nat} {w : World} (h : RM d (rf s tk cl) w) (ok : s.Ok) (ag : Ag s tk cl) (z : Int) :
    Calls Try.prog 37 #[.pointer (some ⟨d.P, 0, none⟩), .int .i64 z] w fun e w' => e = .returned (.int .i64 (s.close z).1) ∧ RGo d s tk cl w (s.close z).2 w' := by
  rcases ag.shut ok z with ⟨h1, h2⟩ | ⟨q, k, rfl, h2, h3, h4, h5⟩
  · rcases h2 with h2 | ⟨q, k, rfl, h3, h4, h5⟩
    · rw [Sl.close_none h2]
      exact (ref_close_no h ok ag z (.inl h2)).mono fun e w' ⟨he, hw⟩ => ⟨he, hw ▸ RGo.refl h ag⟩
    · rw [Sl.close_open h3 h4]
      exact ref_close_yes h ok ag h3 h4 h1
  · rw [Sl.close_shut h4 h3]
    exact (ref_close_no h ok ag (q : Int) (.inr h5)).mono fun e w' ⟨he, hw⟩ => ⟨he, hw ▸ RGo.refl h ag⟩
end Go.Proofs.Ytldfpacdlephcaa
