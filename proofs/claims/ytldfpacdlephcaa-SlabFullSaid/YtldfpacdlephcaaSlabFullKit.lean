/-
  What the law SlabFull says of a slab, as plain facts. No conditions.
-/
import Derived.Test.YtldfpacdlephcaaSlabMovesKit
namespace Go.Proofs.Ytldfpacdlephcaa
open Go Go.RowKit Go.Lib

/-- Of a page's eight places: the first m of e are used. -/
def us (e m : Nat) : List Bool := (List.range 8).map fun i => decide (i < e ∧ i < m)
theorem us_at (e m : Nat) {i : Nat} (hi : i < 8) : (us e m)[i]? = some (decide (i < e ∧ i < m)) := by
  unfold us
  rw [List.getElem?_map, List.getElem?_range hi]; rfl
theorem us_len (e m : Nat) : (us e m).length = 8 := by simp [us]
theorem us_none (e m : Nat) {i : Nat} (hi : ¬ i < 8) : (us e m)[i]? = none := List.getElem?_eq_none (by rw [us_len]; omega)
theorem us_full {e m m' : Nat} (h : e ≤ m) (h' : e ≤ m') : us e m = us e m' := by
  apply List.ext_getElem?
  intro i
  by_cases hi : i < 8
  · rw [us_at e m hi, us_at e m' hi]
    congr 1
    rw [decide_eq_decide]
    omega
  · rw [us_none e m hi, us_none e m' hi]
theorem us_set {e m : Nat} (h : m < e) (he : e ≤ 8) : (us e m).set m true = us e (m + 1) := by
  apply List.ext_getElem?
  intro i
  rw [List.getElem?_set]
  by_cases hi : i < 8
  · by_cases e1 : m = i
    · subst e1
      rw [if_pos rfl, if_pos (by rw [us_len]; omega), us_at e _ hi]
      congr 1
      symm
      rw [decide_eq_true_iff]
      omega
    · rw [if_neg e1, us_at e m hi, us_at e (m + 1) hi]
      congr 1
      rw [decide_eq_decide]
      omega
  · rw [if_neg (by omega), us_none e m hi, us_none e (m + 1) hi]
theorem us_zero (e : Nat) : us e 0 = List.replicate 8 false := by
  apply List.ext_getElem?
  intro i
  by_cases hi : i < 8
  · rw [us_at e 0 hi, List.getElem?_replicate, if_pos hi]
    congr 1
    rw [decide_eq_false_iff_not]; omega
  · rw [us_none e 0 hi, List.getElem?_replicate, if_neg hi]
theorem us_tru : ∀ e, e < 9 → tru (us e e) = e := by decide

/-- N pages, of one class of size Z; e chunks to a page; k are used, of g pages. -/
structure Fu (N Z e k g : Nat) (s : Sl) : Prop where
  ok : s.Ok
  sz : s.sz = [Z]
  size : s.a.size = 512
  len : s.a.ow.length = N
  ow : ∀ p, p < N → s.a.ow[p]? = some (if p < g then 0 else -1)
  cut : ∀ p, p < g → s.cut p = some ⟨0, us e (k - p * e), false⟩
  row : s.rows 0 = (List.range (g * e - k)).map fun j => 4096 * (g - 1) + (e - 1 - j)
  lo : k ≤ g * e
  hi : g * e < k + e
  gN : g ≤ N
theorem Fu.cls {N Z e k g : Nat} {s : Sl} (h : Fu N Z e k g s) : s.classB ((0 : Nat) : Int) = true := by
  unfold Sl.classB; rw [h.sz, decide_eq_true_iff]
  exact ⟨Int.le_refl _, (by decide : (0 : Int) < 1)⟩
theorem Fu.per {N Z e k g : Nat} {s : Sl} (h : Fu N Z e k g s) (he : e = 512 / Z) : s.per 0 = e := by
  show s.a.size / s.sz.getD 0 1 = e
  rw [h.size, h.sz, he]; rfl
theorem Fu.sizeIs {N Z e k g : Nat} {s : Sl} (h : Fu N Z e k g s) : s.size 0 = Z := by
  show s.sz.getD 0 1 = Z
  rw [h.sz]; rfl
theorem Fu.U {N Z e k g : Nat} {s : Sl} (h : Fu N Z e k g s) : s.U = 8 := by
  show s.a.size / 64 = 8
  rw [h.size]
theorem Fu.wher {N Z e k g : Nat} {s : Sl} (h : Fu N Z e k g s) {q i : Nat} (hq : q < g) (hi : i < e) (he : e ≤ 8) (hk : i < k - q * e) : s.wher ((4096 * q + i : Nat) : Int) = ((q : Int), ((i * Z : Nat) : Int), (Z : Int)) := by
  have e1 : (4096 * q + i) / 4096 = q := by omega
  have e2 : (4096 * q + i) % 4096 = i := by omega
  have hc : s.cut ((4096 * q + i) / 4096) = some ⟨0, us e (k - q * e), false⟩ := by rw [e1]; exact h.cut q hq
  have hu : s.usedN (4096 * q + i) = true := Sl.usedN_of hc (by
    rw [e2]
    show (us e (k - q * e))[i]? = _
    rw [us_at _ _ (by omega)]
    congr 1
    rw [decide_eq_true_iff]; exact ⟨hi, hk⟩)
  rw [wher_yes hu hc, e1, e2]
  show ((q : Int), ((i * s.size 0 : Nat) : Int), ((s.size 0 : Nat) : Int)) = _
  rw [h.sizeIs]
theorem mul_succ' (g e : Nat) : (g + 1) * e = g * e + e := Nat.succ_mul g e
theorem mul_up {p g e : Nat} (h : p < g) : p * e + e ≤ g * e := by
  rw [← mul_succ']; exact Nat.mul_le_mul_right e h
/-- Within a page. -/
theorem Fu.step {N Z e k g m : Nat} {s : Sl} (h : Fu N Z e k (g + 1) s) (he : e ≤ 8) (hm : (g + 1) * e - k = m + 1) :
    s.alloc 0 = (((4096 * g + (e - 1 - m) : Nat) : Int), 0, (s.setRow 0 ((List.range m).map fun j => 4096 * g + (e - 1 - j))).mark (4096 * g + (e - 1 - m)) true) ∧ Fu N Z e (k + 1) (g + 1) ((s.setRow 0 ((List.range m).map fun j => 4096 * g + (e - 1 - j))).mark (4096 * g + (e - 1 - m)) true) ∧ e - 1 - m < e ∧ e - 1 - m < k + 1 - g * e := by
  have hms := mul_succ' g e
  have hlo := h.lo
  have hhi := h.hi
  have hrow := h.row
  rw [hm, List.range_succ, List.map_append] at hrow
  have hrow : s.rows 0 = ((List.range m).map fun j => 4096 * g + (e - 1 - j)) ++ [4096 * g + (e - 1 - m)] := hrow
  have ha : s.alloc ((0 : Nat) : Int) = _ := Sl.alloc_row h.cls hrow
  have hok := h.ok.allocOk ((0 : Nat) : Int)
  rw [ha] at hok
  have e1 : (4096 * g + (e - 1 - m)) / 4096 = g := by omega
  have e2 : (4096 * g + (e - 1 - m)) % 4096 = e - 1 - m := by omega
  have hc : (s.setRow 0 ((List.range m).map fun j => 4096 * g + (e - 1 - j))).cut ((4096 * g + (e - 1 - m)) / 4096) = some ⟨0, us e (k - g * e), false⟩ := by rw [e1]; exact h.cut g (by omega)
  refine ⟨ha, ?_, by omega, by omega⟩
  have hok' : ((s.setRow 0 ((List.range m).map fun j => 4096 * g + (e - 1 - j))).mark (4096 * g + (e - 1 - m)) true).Ok := hok
  rw [Sl.mark_at true hc, e1, e2] at hok' ⊢
  have hset : (us e (k - g * e)).set (e - 1 - m) true = us e (k + 1 - g * e) := by
    have a1 : e - 1 - m = k - g * e := by omega
    have a2 : k + 1 - g * e = k - g * e + 1 := by omega
    rw [a1, a2]; exact us_set (by omega) he
  refine ⟨hok', h.sz, h.size, h.len, h.ow, fun p hp => ?_, ?_, by omega, by omega, h.gN⟩
  · by_cases e3 : p = g
    · subst e3
      rw [← hset]
      exact upd_same s.cut p (some _)
    · have : upd s.cut g (some (Ct.mark ⟨0, us e (k - g * e), false⟩ (e - 1 - m) true)) p = s.cut p := upd_ne _ _ e3
      have hup := mul_up (e := e) (show p < g by omega)
      show upd s.cut g (some (Ct.mark ⟨0, us e (k - g * e), false⟩ (e - 1 - m) true)) p = _
      rw [this, h.cut p hp]
      rw [us_full (show e ≤ k - p * e by omega) (show e ≤ k + 1 - p * e by omega)]
  · have a3 : (g + 1) * e - (k + 1) = m := by omega
    rw [a3]
    exact upd_same s.rows 0 _
/-- On a new page. -/
theorem Fu.grow {N Z e g : Nat} {s : Sl} (h : Fu N Z e (g * e) g s) (e1 : 1 ≤ e) (he : e ≤ 8) (hz : e = 512 / Z) (hg : g < N) :
    ∃ s', s.alloc 0 = (((4096 * g : Nat) : Int), 0, s') ∧ Fu N Z e (g * e + 1) (g + 1) s' := by
  have hms := mul_succ' g e
  have hrow := h.row
  rw [Nat.sub_self] at hrow
  have hrow : s.rows 0 = [] := hrow
  have hfi : fi s.a.ow (-1) 0 = (g : Int) := by
    rcases fi_facts s.a.ow (-1) 0 with ⟨_, h2⟩ | ⟨j, h1, h2, h3⟩
    · exact absurd rfl (h2 g _ (by rw [h.ow g hg, if_neg (by omega)]))
    · have hjN : j < N := by
        have := (List.getElem?_eq_some_iff.1 h2).1
        rw [h.len] at this; exact this
      rw [h.ow j hjN] at h2
      have hgj : ¬ j < g := fun hlt => by
        rw [if_pos hlt] at h2
        cases h2
      by_cases e2 : j = g
      · rw [h1, e2, Nat.zero_add]
      · exact absurd rfl (h3 g _ (by omega) (by rw [h.ow g hg, if_neg (by omega)]))
  have hper := h.per hz
  have hgr := s.grown_rows g 0
  rw [hrow, hper, List.nil_append] at hgr
  obtain ⟨m, rfl⟩ : ∃ m, e = m + 1 := ⟨e - 1, by omega⟩
  rw [List.range_succ, List.map_append] at hgr
  have hgr : (s.grown g 0).rows 0 = ((List.range m).map fun j => 4096 * g + (m + 1 - 1 - j)) ++ [4096 * g + (m + 1 - 1 - m)] := hgr
  have ex : 4096 * g + (m + 1 - 1 - m) = 4096 * g := by omega
  rw [ex] at hgr
  have ha : s.alloc ((0 : Nat) : Int) = _ := Sl.alloc_grow h.cls hrow hfi hgr
  have hok := h.ok.allocOk ((0 : Nat) : Int)
  rw [ha] at hok
  have e2 : (4096 * g) / 4096 = g := by omega
  have e3 : (4096 * g) % 4096 = 0 := by omega
  have hc : ((s.grown g 0).setRow 0 ((List.range m).map fun j => 4096 * g + (m + 1 - 1 - j))).cut ((4096 * g) / 4096) = some ⟨0, List.replicate 8 false, false⟩ := by
    rw [e2]
    refine Eq.trans (upd_same s.cut g (some (newCut s.U 0))) ?_
    rw [h.U]; rfl
  refine ⟨_, ha, ?_⟩
  have hok' : (((s.grown g 0).setRow 0 ((List.range m).map fun j => 4096 * g + (m + 1 - 1 - j))).mark (4096 * g) true).Ok := hok
  rw [Sl.mark_at true hc, e2, e3] at hok' ⊢
  have hset : (List.replicate 8 false).set 0 true = us (m + 1) (g * (m + 1) + 1 - g * (m + 1)) := by
    rw [← us_zero (m + 1)]
    have : g * (m + 1) + 1 - g * (m + 1) = 0 + 1 := by omega
    rw [this]; exact us_set (by omega) he
  refine ⟨hok', h.sz, h.size, ?_, fun p hp => ?_, fun p hp => ?_, ?_, by omega, by omega, by omega⟩
  · show (s.a.ow.set g (0 : Int)).length = N
    rw [List.length_set, h.len]
  · show (s.a.ow.set g (0 : Int))[p]? = _
    rw [List.getElem?_set]
    by_cases e4 : g = p
    · subst e4
      rw [if_pos rfl, if_pos (by rw [h.len]; exact hg), if_pos (by omega)]
    · rw [if_neg e4, h.ow p hp]
      by_cases hpg : p < g
      · rw [if_pos hpg, if_pos (by omega)]
      · rw [if_neg hpg, if_neg (by omega)]
  · by_cases e4 : p = g
    · subst e4
      rw [← hset]
      exact upd_same _ p (some _)
    · have hup := mul_up (e := m + 1) (show p < g by omega)
      have a1 : upd (upd s.cut g (some (newCut s.U 0))) g (some (Ct.mark ⟨0, List.replicate 8 false, false⟩ 0 true)) p = s.cut p := by
        rw [upd_ne _ _ e4, upd_ne _ _ e4]
      refine a1.trans ?_
      rw [h.cut p (by omega), us_full (show m + 1 ≤ g * (m + 1) - p * (m + 1) by omega) (show m + 1 ≤ g * (m + 1) + 1 - p * (m + 1) by omega)]
  · have a3 : (g + 1) * (m + 1) - (g * (m + 1) + 1) = m := by omega
    rw [a3]
    exact upd_same (s.grown g 0).rows 0 _
/-- A chunk more. -/
theorem Fu.alloc {N Z e k g : Nat} {s : Sl} (h : Fu N Z e k g s) (e1 : 1 ≤ e) (he : e ≤ 8) (hz : e = 512 / Z) (hk : k < N * e) :
    ∃ q i g', q < N ∧ i < e ∧ (s.alloc 0).1 = ((4096 * q + i : Nat) : Int) ∧ (s.alloc 0).2.1 = 0 ∧ Fu N Z e (k + 1) g' (s.alloc 0).2.2 ∧ (s.alloc 0).2.2.wher ((4096 * q + i : Nat) : Int) = ((q : Int), ((i * Z : Nat) : Int), (Z : Int)) := by
  have hlo := h.lo
  have hhi := h.hi
  have hgN := h.gN
  by_cases hr : k = g * e
  · subst hr
    have hg : g < N := Nat.lt_of_mul_lt_mul_right hk
    obtain ⟨s', ha, hF⟩ := h.grow e1 he hz hg
    rw [ha]
    exact ⟨g, 0, g + 1, hg, by omega, rfl, rfl, hF, hF.wher (i := 0) (by omega) (by omega) he (by omega)⟩
  · obtain ⟨g', rfl⟩ : ∃ g', g = g' + 1 := ⟨g - 1, by
      cases g with
      | zero => rw [Nat.zero_mul] at hlo hr; omega
      | succ g => omega⟩
    obtain ⟨m, hm⟩ : ∃ m, (g' + 1) * e - k = m + 1 := ⟨(g' + 1) * e - k - 1, by omega⟩
    obtain ⟨ha, hF, hi, hi2⟩ := h.step he hm
    rw [ha]
    exact ⟨g', e - 1 - m, g' + 1, by omega, hi, rfl, rfl, hF, hF.wher (by omega) hi he hi2⟩
theorem Fu.done {N Z e g : Nat} {s : Sl} (h : Fu N Z e (N * e) g s) (e1 : 1 ≤ e) : g = N := by
  have h1 := h.lo
  have h2 := h.gN
  have : N ≤ g := Nat.le_of_mul_le_mul_right h1 (by omega)
  omega
theorem Fu.full {N Z e g : Nat} {s : Sl} (h : Fu N Z e (N * e) g s) (e1 : 1 ≤ e) : s.alloc 0 = (-1, 5, s) := by
  have hg := h.done e1
  subst hg
  have hrow := h.row
  rw [Nat.sub_self] at hrow
  refine Sl.alloc_full (c := 0) h.cls hrow ?_
  rcases fi_cases s.a.ow with e2 | ⟨p, _, h2⟩
  · exact e2
  · have hp : p < g := by
      have := (List.getElem?_eq_some_iff.1 h2).1
      rw [h.len] at this; exact this
    rw [h.ow p hp, if_pos hp] at h2
    cases h2
theorem Fu.cnt {N Z e g : Nat} {s : Sl} (h : Fu N Z e (N * e) g s) (e1 : 1 ≤ e) (he : e ≤ 8) : ∀ m, m ≤ N → s.cntP 0 m = m ∧ s.cntU 0 m = m * e
  | 0, _ => ⟨rfl, (Nat.zero_mul e).symm⟩
  | m + 1, hm => by
    have hg := h.done e1
    obtain ⟨i1, i2⟩ := Fu.cnt h e1 he m (by omega)
    have hc := h.cut m (by omega)
    have hup := mul_up (e := e) (show m < N by omega)
    rw [us_full (show e ≤ N * e - m * e by omega) (Nat.le_refl e)] at hc
    obtain ⟨a1, a2⟩ := Sl.cnt_yes (c := 0) hc rfl
    rw [a1, a2, i1, i2]
    refine ⟨rfl, ?_⟩
    show m * e + tru (us e e) = _
    rw [us_tru e (by omega), mul_succ']
theorem Fu.cnt2 {N Z e g : Nat} {s : Sl} (h : Fu N Z e (N * e) g s) (e1 : 1 ≤ e) (he : e ≤ 8) : ∀ m, s.cntP 0 (N + m) = N ∧ s.cntU 0 (N + m) = N * e
  | 0 => h.cnt e1 he N (Nat.le_refl N)
  | m + 1 => by
    obtain ⟨i1, i2⟩ := Fu.cnt2 h e1 he m
    have hc : s.cut (N + m) = none := by
      cases hk : s.cut (N + m) with
      | none => rfl
      | some k =>
        have := h.ok.cut_lt hk
        rw [h.len] at this; omega
    obtain ⟨a1, a2⟩ := Sl.cnt_none (c := 0) hc
    exact ⟨a1.trans i1, a2.trans i2⟩
theorem Fu.counts {N Z e g : Nat} {s : Sl} (h : Fu N Z e (N * e) g s) (e1 : 1 ≤ e) (he : e ≤ 8) (hN : N ≤ 1024) : s.counts 0 = ((N : Int), ((N * e : Nat) : Int), 0) := by
  have hg := h.done e1
  subst hg
  have hrow := h.row
  rw [Nat.sub_self] at hrow
  have e2 : s.counts ((0 : Nat) : Int) = (((s.cntP 0 1024 : Nat) : Int), ((s.cntU 0 1024 : Nat) : Int), (((s.rows 0).length : Nat) : Int)) := by
    unfold Sl.counts
    rw [h.cls, if_pos rfl, Int.toNat_natCast]
  obtain ⟨a1, a2⟩ := h.cnt2 e1 he (1024 - g)
  rw [show g + (1024 - g) = 1024 by omega] at a1 a2
  have e3 : s.counts 0 = _ := e2
  rw [e3, a1, a2, hrow]
  rfl
theorem fu_zero {N Z e : Nat} (ok : (newSl (newSt N 512) [Z]).Ok) (e1 : 1 ≤ e) : Fu N Z e 0 0 (newSl (newSt N 512) [Z]) := by
  refine ⟨ok, rfl, rfl, ?_, fun p hp => ?_, fun p hp => absurd hp (Nat.not_lt_zero p), ?_, Nat.zero_le _, by omega, Nat.zero_le _⟩
  · show (List.replicate N (-1 : Int)).length = N
    simp
  · show (List.replicate N (-1 : Int))[p]? = _
    rw [List.getElem?_replicate, if_pos hp, if_neg (Nat.not_lt_zero p)]
  · show ([] : List Nat) = (List.range (0 * e - 0)).map _
    rw [Nat.zero_mul]; rfl
end Go.Proofs.Ytldfpacdlephcaa
