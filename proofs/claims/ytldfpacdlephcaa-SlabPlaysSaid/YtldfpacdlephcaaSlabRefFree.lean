/-
  The document's own answer for layer 7 (ambryref07) at this program: Free and Where, of any slab and any number. No conditions.
-/
import Derived.Test.YtldfpacdlephcaaSlabRefAlloc
namespace Go.Proofs.Ytldfpacdlephcaa
open Go Go.RowKit Go.Lib

theorem Ag.less {s : Sl} {tk cl : List Nat} (h : Ag s tk cl) {y : Nat} {k : Ct} (hk : s.cut (y / 4096) = some k) (hl : y % 4096 < k.used.length) : Ag (s.mark y false) (wo tk (y : Int)) cl := by
  refine ⟨h.srt.sublist List.filter_sublist, fun x => ?_, fun p => (h.cls p).trans (mark_shut y false p).symm, h.cnd⟩
  rw [wo_mem, h.mem x, usedN_mark hk hl false x]
  by_cases e : x = y
  · rw [if_pos e]
    constructor
    · rintro ⟨_, h2⟩; omega
    · intro h2; cases h2
  · rw [if_neg e]
    exact ⟨fun h => h.1, fun h => ⟨h, by omega⟩⟩

/-- A row that was just made takes another one's place. -/
theorem RStp.fresh {d : Dr} {f : Rf} {w w1 : World} (h : RM d f w) {c : Nat} (hc : c < f.sz.length + 2) {v : Value} {l : List Nat} (hB : Below w.heap.size w w1) (hown : w1.ownsRow w.heap.size 3 1 v l.length (nc l)) :
    RStp d f w { d with rv := upd d.rv c v } { f with rows := upd f.rows c l } (w1.setCell (rowAt d f.sz.length c) v) :=
  RStp.row h hc v l (Below.only hB) (own_base hown (Nat.zero_le _)) (fun b hb => .inr (own_ge hown b hb))
theorem RStp.tk {d : Dr} {s : Sl} {tk cl l : List Nat} {w w1 : World} (h : RM d (rf s tk cl) w) {v : Value} (hB : Below w.heap.size w w1) (hown : w1.ownsRow w.heap.size 3 1 v l.length (nc l)) :
    ∃ d2, d2.P = d.P ∧ d2.rv (s.sz.length + 1) = d.rv (s.sz.length + 1) ∧ RStp d (rf s tk cl) w d2 (rf s l cl) (w1.setCell ⟨d.P, 3, none⟩ v) := by
  have hS := RStp.fresh h (c := (rf s tk cl).sz.length) (by omega) hB hown
  have e3 : rowAt d (rf s tk cl).sz.length (rf s tk cl).sz.length = ⟨d.P, 3, none⟩ := rowAt_taken _ _
  have e4 : ({ rf s tk cl with rows := upd (rf s tk cl).rows (rf s tk cl).sz.length l } : Rf) = rf s l cl := rf_setTk
  rw [e3, e4] at hS
  exact ⟨{ d with rv := upd d.rv (rf s tk cl).sz.length v }, rfl, upd_ne _ _ (by show s.sz.length + 1 ≠ s.sz.length; omega), hS⟩
theorem RStp.cl {d : Dr} {s : Sl} {tk cl l : List Nat} {w w1 : World} (h : RM d (rf s tk cl) w) {v : Value} (ho : Only (fun b => (d.rv (s.sz.length + 1)).ownBlock = some b) w w1) (hr : w1.ownsRow 0 3 1 v l.length (nc l))
    (hv : ∀ b, v.ownBlock = some b → (d.rv (s.sz.length + 1)).ownBlock = some b ∨ w.heap.size ≤ b) :
    ∃ d2, d2.P = d.P ∧ d2.R = d.R ∧ RStp d (rf s tk cl) w d2 (rf s tk l) (w1.setCell ⟨d.P, 4, none⟩ v) := by
  have hS := RStp.row h (c := (rf s tk cl).sz.length + 1) (by omega) v l ho hr hv
  have e3 : rowAt d (rf s tk cl).sz.length ((rf s tk cl).sz.length + 1) = ⟨d.P, 4, none⟩ := rowAt_closed _ _
  rw [e3] at hS
  exact ⟨{ d with rv := upd d.rv ((rf s tk cl).sz.length + 1) v }, rfl, rfl, hS.rows (r := (rf s tk l).rows) (fun i hi => rf_setCl i hi)⟩

set_option maxHeartbeats 8000000 in
set_option maxRecDepth 100000 in
theorem ref_free {d : Dr} {s : Sl} {tk cl : List Nat} {w : World} (h : RM d (rf s tk cl) w) (ok : s.Ok) (ag : Ag s tk cl) (x : Int) :
    Calls Try.prog 36 #[.pointer (some ⟨d.P, 0, none⟩), .int .i64 x] w fun e w' => e = .returned (.int .i64 (s.free x).1) ∧ RGo d s tk cl w (s.free x).2 w' := by
  obtain ⟨i0, hi0, hz0, hz1, hz2⟩ := info_parts infoInt
  have hu := ref_used h ok ag x
  rcases s.used_cases x with ⟨hn, _⟩ | ⟨y, rfl, hy, hb⟩
  · rw [Sl.free_no hn]
    rw [hn] at hu
    have hgo := hid (RGo.refl h ag)
    clear h ok ag hn
    go_enter Try.func36, Try.ntmps36
    go_wp2_with fail
    refine hu.mono ?_
    rintro e w' ⟨rfl, rfl⟩
    clear hu
    go_wp2_with fail
    go_ret
    exact ⟨rfl, hgo.out⟩
  · obtain ⟨k, hk, hkt⟩ := Sl.usedN_true hy
    rw [Sl.free_yes hy hk]
    obtain ⟨s', hs'⟩ : ∃ s', s' = (if k.closed = true then s.mark y false else (s.mark y false).push k.cls y) := ⟨_, rfl⟩
    rw [← hs']
    have HS' := hid hs'
    clear hs'
    rw [hb] at hu
    have hlt : y % 4096 < k.used.length := (List.getElem?_eq_some_iff.1 hkt).1
    obtain ⟨k1, hkc, hul, k4⟩ := ok.ct _ k hk
    have hper := k4 _ hkt
    have hag2 := ag.less hk hlt
    have hp := ok.cut_1024 hk
    have htl := ag.tlen ok
    have hcl := ag.clen ok
    have hrl := ok.row_len hkc
    have htr := h.row (rf s tk cl).sz.length (by omega)
    have et : (rf s tk cl).rows (rf s tk cl).sz.length = tk := rf_tk s tk cl
    rw [et] at htr
    have hwo := ref_without htr (Nat.le_trans htl (by decide)) (y : Int)
    obtain ⟨t3, tf3⟩ := h.h3
    have lP := h.head.lt
    obtain ⟨ta, tc, hvt⟩ := row_form htr
    rw [hvt] at t3 hwo
    have e1 : (y : Int) / 4096 = ((y / 4096 : Nat) : Int) := by omega
    have hyb : y ≤ 4194304 := by omega
    have hcB : hasB cl ((y / 4096 : Nat) : Int) = k.closed := by
      rcases ag.shut ok ((y / 4096 : Nat) : Int) with ⟨h1, h2⟩ | ⟨q, k2, h1, h2, h3, _, h5⟩
      · rcases h2 with h2 | ⟨q, k2, h3, h4, h5, _⟩
        · rw [s.atP_nat, hk] at h2; cases h2
        · obtain rfl : q = y / 4096 := by omega
          rw [hk] at h4
          cases h4
          rw [h1, h5]
      · obtain rfl : q = y / 4096 := by omega
        rw [hk] at h2
        cases h2
        rw [h3, h5]
    have H := hid h
    have HT := hid htr
    have HAG2 := hid hag2
    have HCL := hid (fun (d2 : Dr) (w2 : World) (h2 : RM d2 (rf s (wo tk (y : Int)) cl) w2) => ref_class h2 ok hk hper)
    have HK := hid hk
    have HHAS := hid (fun (d2 : Dr) (w2 : World) (h2 : RM d2 (rf s (wo tk (y : Int)) cl) w2) => by
      have hr := h2.row (s.sz.length + 1) (by show s.sz.length + 1 < s.sz.length + 2; omega)
      have e : (rf s (wo tk (y : Int)) cl).rows (s.sz.length + 1) = cl := rf_cl s _ cl
      rw [e] at hr
      have h3 := ref_has hr (Nat.le_trans hcl (by decide)) ((y / 4096 : Nat) : Int)
      rw [hcB] at h3
      exact h3)
    have HKC := hid hkc
    clear h ok ag hy hb hk hkt hlt k1 hul k4 hper hag2 htl et htr hvt hcB hkc
    generalize y / 4096 = q4 at *
    go_enter Try.func36, Try.ntmps36
    go_wp2_with fail
    refine hu.mono ?_
    rintro e w' ⟨rfl, rfl⟩
    clear hu
    go_wp2_with fail
    refine hwo.mono ?_
    rintro e w1 ⟨v, rfl, hown, hB⟩
    obtain ⟨a1, c1, rfl⟩ := row_form hown
    have t31 := (hB.cell (p := ⟨d.P, 3, none⟩) lP).trans t3
    have tf31 := (hB.frozen (p := ⟨d.P, 3, none⟩) lP).trans tf3
    obtain ⟨d2, hP2, hrv2, hS⟩ := RStp.tk H.out hB hown
    have t41 := (hB.cell (p := ⟨d.P, 4, none⟩) lP).trans H.out.h4.1
    have en : (rf s tk cl).sz.length = s.sz.length := rfl
    rw [en, ← hrv2] at t41
    obtain ⟨W2, hW2⟩ : ∃ W2, W2 = w1.setCell ⟨d.P, 3, none⟩ (.slice a1 (wo tk (y : Int)).length c1) := ⟨_, rfl⟩
    rw [← hW2] at hS
    have hr4 := hS.m.row (s.sz.length + 1) (by show s.sz.length + 1 < s.sz.length + 2; omega)
    obtain ⟨ca, cc, hvc⟩ := row_form hr4
    have hha := HHAS.out d2 W2 hS.m
    have ecl : (rf s (wo tk (y : Int)) cl).rows (s.sz.length + 1) = cl := rf_cl s _ cl
    rw [ecl] at hvc
    rw [hvc] at hha t41
    have hcl2 := HCL.out d2 W2 hS.m
    rw [hP2] at hcl2
    have HS := hid hS
    have HW2 := hid hW2
    have HP2 := hid hP2
    clear hwo hown hB hS hr4 hvc ecl hW2 hP2 hrv2 en HHAS HT H t3 tf3 lP
    generalize (wo tk (y : Int)).length = nw at *
    generalize cl.length = nl at *
    go_wp2_with fail
    rw [← HW2.out]
    clear HW2 t31 tf31 t41
    refine hha.mono ?_
    rintro e w' ⟨rfl, rfl⟩
    clear hha
    cases hkl : k.closed with
    | true =>
      obtain rfl : s' = s.mark y false := by rw [HS'.out, hkl, if_pos rfl]
      have HF : Hid (RGo d s tk cl w (s.mark y false) W2) := hid ⟨d2, wo tk (y : Int), cl, by rw [rf_mark]; exact HS.out, HAG2.out⟩
      clear HS HAG2 HCL HK HKC hkl hcl2 HS'
      go_wp2_with fail
      go_ret
      exact ⟨rfl, HF.out⟩
    | false =>
      obtain rfl : s' = (s.mark y false).push k.cls y := by rw [HS'.out, hkl, if_neg (by decide)]
      clear hkl HS'
      go_wp2_with fail
      refine hcl2.mono ?_
      rintro e W3 ⟨rfl, m, hW3⟩
      have hm : RM d2 (rf s (wo tk (y : Int)) cl) W3 := by rw [hW3]; exact HS.out.m.drewN m
      have HB3 : Hid (Below W2.heap.size W2 W3) := hid (by rw [hW3]; exact drewN_below W2 m)
      clear hW3
      have c2 := hm.h2
      have es : (rf s (wo tk (y : Int)) cl).sz.length = s.sz.length := rfl
      rw [es, HP2.out] at c2
      obtain ⟨cr, fr⟩ := hm.hr (c := k.cls) HKC.out
      have hown := hm.row k.cls (by show k.cls < s.sz.length + 2; have := HKC.out; omega)
      have hkc1 : (k.cls : Int) < (s.sz.length : Int) := by have := HKC.out; omega
      rw [rf_row HKC.out] at hown
      have lP := hm.head.lt
      rw [HP2.out] at lP
      have lR := hm.rws.lt
      have nP : (d2.rv k.cls).ownBlock ≠ some d.P := fun e => by
        obtain ⟨cs, hB⟩ := own_blk hown e
        exact hB.ne hm.head (by decide) HP2.out.symm
      have nR : (d2.rv k.cls).ownBlock ≠ some d2.R := fun e => by
        obtain ⟨cs, hB⟩ := own_blk hown e
        exact hB.ne hm.rws (by decide) rfl
      have HF : Hid (∀ (w1 : World) g cap n tmp, n = (s.rows k.cls).length → ((W3.alloc tmp).drew).grownBy w1 (d2.rv k.cls).ownBlock → ((d2.rv k.cls).ownBlock = some g ∨ g = W3.heap.size + 1) →
          w1.ownsRow 0 3 1 (.slice (some ⟨g, 0, none⟩) (n + 1) cap) (n + 1) (nc (s.rows k.cls) ++ [.int .i64 (y : Int)]) → RGo d s tk cl w ((s.mark y false).push k.cls y) (w1.setCell ⟨d2.R, k.cls, none⟩ (.slice (some ⟨g, 0, none⟩) (n + 1) cap))) := hid (fun w1 g cap n tmp hn hg hat ho => by
        obtain ⟨m1, m2, m3⟩ := s.mark_sz y false
        have hmm : RM d2 (rf (s.mark y false) (wo tk (y : Int)) cl) W3 := by rw [rf_mark]; exact hm
        obtain ⟨g1, _⟩ := rpush_end hmm (c := k.cls) (by rw [m1]; exact HKC.out) (n := n) (by rw [m3]; exact hn) y g cap hg hat (by rw [m3]; exact ho)
        rw [rf_mark] at g1
        have g2 := (HS.out.more HB3.out).trans g1
        exact ⟨_, _, cl, g2, HAG2.out.same (fun _ => rfl) (fun _ => Iff.rfl)⟩)
      obtain ⟨a, cp, hvf⟩ := row_form hown
      have HVF := hid hvf
      rw [hvf] at cr hown nP nR
      have hll : (s.rows k.cls).length ≤ 4200000 := by omega
      clear hcl2 hm HS HAG2 HCL HK es hvf
      generalize (s.rows k.cls).length = n at *
      go_wp2_with fail
      go_region_law ((refine step_append_lies _ (by rfl) _ _ _ (by rfl) 0 3 i0 _ 1 8 Try.underlying22 hi0 hz0 hz1 hz2 rfl (by omega) (.slice a n cp) n (nc (s.rows k.cls)) (by rfl) ((hown.alloc _).drew) ⟨W3.heap.size, 0, none⟩ 1 1 [.int .i64 (y : Int)] (by rfl) (by rfl) (int_srcZ _ _ _) (one_ok _) (by omega) (by unfold maxLen; omega) (by omega) (by simp) (W3.heap.size + 1) (by simp) ?_; intro g cap w1 hown1 hgrow hat hlt; have e2 := (hgrow.cell_far ⟨d.P, 2, none⟩ (by simp; exact Nat.lt_succ_of_lt lP) (Ne.symm nP)).trans (cell_alloc c2 _); have er := (hgrow.cell_far ⟨d2.R, k.cls, none⟩ (by simp; exact Nat.lt_succ_of_lt lR) (Ne.symm nR)).trans (cell_alloc cr _); have ef := (hgrow.frozen_far ⟨d2.R, k.cls, none⟩ (by simp; exact Nat.lt_succ_of_lt lR) (Ne.symm nR)).trans ((World.frozen?_alloc_past _ d2.R k.cls lR).trans fr)))
      all_goals
        have hfin := HF.out w1 g cap n _ rfl (by rw [HVF.out]; exact hgrow) (by rw [HVF.out]; exact hat) hown1
        clear HF HVF hown1 hgrow hat hown
        go_wp2_with fail
        go_ret
        exact ⟨rfl, hfin⟩
end Go.Proofs.Ytldfpacdlephcaa
