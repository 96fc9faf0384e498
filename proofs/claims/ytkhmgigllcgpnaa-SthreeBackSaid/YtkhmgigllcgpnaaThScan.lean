/-
  A scan over three queues (SthreeScan), as plain mathematics. No program in it. No conditions.
-/
import Derived.Test.YtkhmgigllcgpnaaThFacts
namespace Go.Proofs.Ytkhmgigllcgpnaa.Th
open Go

/-- Ten that were asked for, behind k others; o others are gone. -/
structure Sn (o k : Nat) (s : Th) : Prop where
  ok : s.Ok
  rows : ∃ lo mn, s.L = [seg (1000 + o) k ++ lo, mn] ∧ (∀ z, z ∈ lo ++ mn ↔ 0 ≤ z ∧ z < 10) ∧ ∀ z ∈ lo, 2 ≤ s.cnt z
  cnt : ∀ z, 1000 ≤ z → s.cnt z = 0
  num : ∀ z : Int, ((1000 + o : Nat) : Int) ≤ z → z < ((1000 + o + k : Nat) : Int) → s.num z = z
  g : s.g = Gh.cutL 20 ((List.range o).map (fun j : Nat => ((1000 + j : Nat) : Int)))
  m : s.m = 20
theorem Sn.look {o k : Nat} {s : Th} (h : Sn o k s) (he : s.end_ = false) : Sn o k s.look := by
  obtain ⟨lo, mn, hL, hmem, hlo⟩ := h.rows
  obtain ⟨p, q, z, hat, z1, z2, hl, hc⟩ := look_rows h.ok he
  have okl := h.ok.look he
  have hnum : s.look.num = s.num := rfl
  have hg : s.look.g = s.g := rfl
  have hm : s.look.m = s.m := rfl
  rcases hc with ⟨hs, e, h2, c⟩ | ⟨hs, e, h2, c⟩
  · rw [hL] at e
    injection e with e1 e2
    injection e2 with e2
    have hz : z < 1000 := by
      apply Decidable.byContradiction
      intro hn
      rw [h.cnt z (by omega)] at h2; omega
    obtain ⟨lo', rfl⟩ : ∃ lo', lo = lo' ++ [z] := by
      rcases List.eq_nil_or_concat lo with e3 | ⟨lo', y, e3⟩
      · rw [e3, List.append_nil] at e1
        have : z ∈ seg (1000 + o) k := by rw [e1]; simp
        have := (seg_mem.1 this).1; omega
      · have e4 : lo = lo' ++ [y] := by rw [e3]; simp
        rw [e4, ← List.append_assoc] at e1
        have := List.append_inj' e1 rfl
        have : y = z := by simpa using this.2
        exact ⟨lo', by rw [e4, this]⟩
    rw [← List.append_assoc] at e1
    have hp := (List.append_inj' e1 rfl).1
    refine ⟨okl, ⟨lo', z :: q, by rw [hl, ← hp], fun y => ?_, fun y hy => ?_⟩, fun y hy => ?_, by rw [hnum]; exact h.num, by rw [hg]; exact h.g, by rw [hm]; exact h.m⟩
    · rw [← hmem y, e2]
      simp only [List.mem_append, List.mem_cons, List.not_mem_nil, or_false]
      constructor
      · rintro (a | a | a)
        · exact .inl (.inl a)
        · exact .inl (.inr a)
        · exact .inr a
      · rintro ((a | a) | a)
        · exact .inl a
        · exact .inr (.inl a)
        · exact .inr (.inr a)
    · rw [c]
      have hne : y ≠ z := fun e3 => z1 (by rw [← hp]; exact List.mem_append.2 (.inr (e3 ▸ hy)))
      rw [updN_other hne]
      exact hlo y (List.mem_append.2 (.inl hy))
    · rw [c, updN_other (by omega)]; exact h.cnt y hy
  · rw [hL] at e
    injection e with e1 e2
    injection e2 with e2
    have hzm : z ∈ lo ++ mn := by rw [e2]; simp
    have hz := (hmem z).1 hzm
    refine ⟨okl, ⟨lo, z :: q, by rw [hl, e1], fun y => ?_, fun y hy => ?_⟩, fun y hy => ?_, by rw [hnum]; exact h.num, by rw [hg]; exact h.g, by rw [hm]; exact h.m⟩
    · rw [← hmem y, e2]
      simp only [List.mem_append, List.mem_cons, List.not_mem_nil, or_false]
      constructor
      · rintro (a | a | a)
        · exact .inl a
        · exact .inr (.inr a)
        · exact .inr (.inl a)
      · rintro (a | a | a)
        · exact .inl a
        · exact .inr (.inr a)
        · exact .inr (.inl a)
    · rw [c]
      have hne : y ≠ z := fun e3 => z1 (by rw [← e1]; exact List.mem_append.2 (.inr (e3 ▸ hy)))
      rw [updN_other hne]
      exact hlo y hy
    · rw [c, updN_other (by omega)]; exact h.cnt y hy
theorem Sn.vicF : ∀ (n : Nat) {o k : Nat} {s : Th}, Sn o k s → s.pot < n → Sn o k s.vic.2
  | 0, _, _, _, _, h => absurd h (Nat.not_lt_zero _)
  | n + 1, o, k, s, h, hn => by
    cases he : s.end_
    · have := look_pot h.ok he
      rw [vic_look h.ok he]
      exact Sn.vicF n (h.look he) (by omega)
    · rw [vic_end he]; exact h
theorem Sn.vic {o k : Nat} {s : Th} (h : Sn o k s) : Sn o k s.vic.2 := h.vicF _ (Nat.lt_succ_self _)
theorem low_len {l : List Int} (hn : l.Nodup) (h : ∀ z, z ∈ l ↔ 0 ≤ z ∧ z < 10) : l.length = 10 := by
  have h2 : (seg 0 10).Nodup := by decide
  have := perm_len hn h2 (fun y => by rw [h y, seg_mem]; constructor <;> intro hh <;> omega)
  rw [this]; rfl
theorem Sn.tot {o k : Nat} {s : Th} (h : Sn o k s) : s.tot = k + 10 := by
  obtain ⟨lo, mn, hL, hmem, _⟩ := h.rows
  have hnd := h.ok.good.nd
  rw [hL, tflat, List.append_assoc, List.nodup_append] at hnd
  have := low_len hnd.2.1 hmem
  rw [List.length_append] at this
  unfold Th.tot
  rw [hL]
  show (seg (1000 + o) k ++ lo).length + mn.length = k + 10
  rw [List.length_append, seg_len]; omega
/-- Who goes, when twenty stand, is the oldest other one. -/
theorem Sn.who {o k : Nat} {s : Th} (h : Sn o (k + 1) s) (hk : 2 ≤ k) : s.vic.1 = ((1000 + o : Nat) : Int) ∧ Sn o (k + 1) s.vic.2 ∧ s.vic.2.has ((1000 + o : Nat) : Int) = true ∧ Sn (o + 1) k (s.vic.2.evict ((1000 + o : Nat) : Int)) := by
  have hv := h.ok.looked
  have ht := h.vic
  have h1 : s.vic.1 = s.vic.2.at_ := by rw [hv.vic]
  have he := hv.end_
  generalize s.vic.2 = t at *
  obtain ⟨lo, mn, hL, hmem, hlo⟩ := ht.rows
  have hsm : t.sm = true := by
    unfold Th.sm
    have r0 : (rowAt t.L 0).length = k + 1 + lo.length := by rw [hL]; show (seg (1000 + o) (k + 1) ++ lo).length = _; rw [List.length_append, seg_len]
    rw [r0, ht.m]
    rw [decide_eq_true (show 0 < k + 1 + lo.length by omega), decide_eq_true (show max 1 (20 / 10) < k + 1 + lo.length by omega)]
    rfl
  have hat : t.at_ = lastOf (seg (1000 + o) (k + 1) ++ lo) := by unfold Th.at_; rw [hsm, hL]; rfl
  have hlo0 : lo = [] := by
    rcases List.eq_nil_or_concat lo with e3 | ⟨lo', y, e3⟩
    · exact e3
    · have e4 : lo = lo' ++ [y] := by rw [e3]; simp
      have hy : t.at_ = y := by rw [hat, e4, ← List.append_assoc]; unfold lastOf; simp
      have hin : y ∈ lo := by rw [e4]; simp
      have h2 := hlo y hin
      have h3 := ((hmem y).1 (List.mem_append.2 (.inl hin))).1
      rw [end_is' hy h3, hsm] at he
      have := of_decide_eq_true he
      simp at this; omega
  subst hlo0
  rw [List.append_nil, seg_cut] at hat
  have hatz : t.at_ = ((1000 + o : Nat) : Int) := by rw [hat]; unfold lastOf; simp
  rw [List.append_nil] at hL
  have hrow : rowOf t.L ((1000 + o : Nat) : Int) = some 0 := rowOf_at ht.ok.good.nd (i := 0) (l := seg (1000 + o) (k + 1)) (by rw [hL]; rfl) (seg_mem.2 ⟨by omega, by omega⟩)
  have hno : ((1000 + o : Nat) : Int) ∉ seg (1000 + o + 1) k := fun hm => by have := (seg_mem.1 hm).1; omega
  have hmn : ∀ y ∈ mn, y < 10 := fun y hy => ((hmem y).1 (by simpa using hy)).2
  have hnz : t.num ((1000 + o : Nat) : Int) = ((1000 + o : Nat) : Int) := ht.num _ (Int.le_refl _) (by omega)
  have hev := evict_small hrow
  rw [hnz] at hev
  have htk : takeL t.L ((1000 + o : Nat) : Int) = [seg (1000 + (o + 1)) k ++ [], mn] := by
    rw [hL, seg_cut]
    unfold takeL
    simp only [List.map_cons, List.map_nil]
    rw [filt_snoc_no hno, filt_no (fun hm => by have := hmn _ hm; omega), List.append_nil]
    rfl
  refine ⟨h1.trans hatz, ht, by unfold Th.has; rw [hrow]; rfl, ht.ok.evict _, ⟨[], mn, by rw [hev]; exact htk, hmem, fun z hz => by cases hz⟩, fun z hz => ?_, fun z h0 h2 => ?_, ?_, by rw [hev]; exact ht.m⟩
  · rw [hev]
    show updN t.cnt _ 0 z = 0
    by_cases e : z = ((1000 + o : Nat) : Int)
    · rw [e, updN_same]
    · rw [updN_other e]; exact ht.cnt z hz
  · rw [hev]
    show updN t.num _ 0 z = z
    rw [updN_other (by omega)]; exact ht.num z (by omega) (by omega)
  · rw [hev]
    show Gh.addL t.m t.g _ = _
    rw [ht.g, ht.m]
    have hnot : ((1000 + o : Nat) : Int) ∉ Gh.cutL 20 ((List.range o).map (fun j : Nat => ((1000 + j : Nat) : Int))) := fun hm => by
      unfold Gh.cutL at hm
      have := (List.drop_sublist _ _).mem hm
      obtain ⟨j, hj, hj2⟩ := List.mem_map.1 this
      have := List.mem_range.1 hj
      omega
    unfold Gh.addL
    rw [Gh.rm_no hnot, List.range_succ, List.map_append]
    show Gh.cutL 20 (Gh.cutL 20 _ ++ [((1000 + o : Nat) : Int)]) = Gh.cutL 20 (_ ++ [((1000 + o : Nat) : Int)])
    generalize (List.range o).map (fun j : Nat => ((1000 + j : Nat) : Int)) = l
    rw [Gh.cut_snoc (by omega), Gh.cut_snoc (by omega), Gh.cut_cut (by omega)]
theorem Sn.ins {o k : Nat} {s : Th} (h : Sn o k s) (hk : o + k ≤ 1000) : s.insB ((1000 + o + k : Nat) : Int) = true ∧ Sn o (k + 1) (s.ins ((1000 + o + k : Nat) : Int) ((1000 + o + k : Nat) : Int)) := by
  obtain ⟨lo, mn, hL, hmem, hlo⟩ := h.rows
  have hzn : ((1000 + o + k : Nat) : Int) ∉ s.L.flatten := by
    rw [hL, tflat, List.append_assoc, List.mem_append]
    rintro (h1 | h1)
    · have := (seg_mem.1 h1).2; omega
    · have := ((hmem _).1 h1).2; omega
  have hng : ((1000 + o + k : Nat) : Int) ∉ s.g := by
    rw [h.g]
    intro hm
    unfold Gh.cutL at hm
    have := (List.drop_sublist _ _).mem hm
    obtain ⟨j, hj, hj2⟩ := List.mem_map.1 this
    have := List.mem_range.1 hj
    omega
  obtain ⟨hb, he⟩ := ins_new (x := ((1000 + o + k : Nat) : Int)) (by omega) (by omega) hzn
  rw [if_neg hng] at he
  have hLf : opFront s.L 0 ((1000 + o + k : Nat) : Int) = [seg (1000 + o) (k + 1) ++ lo, mn] := by
    rw [hL] at hzn ⊢
    exact (front0 hzn (by omega) (by omega)).1
  have hlt : ∀ y ∈ lo, y < 10 := fun y hy => ((hmem y).1 (List.mem_append.2 (.inl hy))).2
  refine ⟨hb, h.ok.ins _ _, ⟨lo, mn, by rw [he]; exact hLf, hmem, fun y hy => ?_⟩, fun y hy => ?_, fun y h0 h1 => ?_, by rw [he]; show Gh.rmL s.g _ = _; rw [Gh.rm_no hng]; exact h.g, by rw [he]; exact h.m⟩
  · rw [he]
    show 2 ≤ updN s.cnt _ 0 y
    have := hlt y hy
    rw [updN_other (by omega)]; exact hlo y hy
  · rw [he]
    show updN s.cnt _ 0 y = 0
    by_cases e : y = ((1000 + o + k : Nat) : Int)
    · rw [e, updN_same]
    · rw [updN_other e]; exact h.cnt y hy
  · rw [he]
    show updN s.num _ _ y = y
    by_cases e : y = ((1000 + o + k : Nat) : Int)
    · rw [e, updN_same]
    · rw [updN_other e]; exact h.num y h0 (by omega)
theorem Sn.low {o k : Nat} {s : Th} (h : Sn o k s) {z : Int} (h0 : 0 ≤ z) (h1 : z < 10) : 0 ≤ s.count z := by
  obtain ⟨lo, mn, hL, hmem, _⟩ := h.rows
  have hm : z ∈ s.L.flatten := by
    rw [hL, tflat, List.append_assoc, List.mem_append]
    exact .inr ((hmem z).2 ⟨h0, h1⟩)
  unfold Th.count
  rw [show s.has z = true from arow_some.2 hm, if_pos rfl]; omega
/-! The ten -/
structure Ten (i : Nat) (s : Th) : Prop where
  ok : s.Ok
  L : s.L = [seg 0 i, []]
  g : s.g = []
  m : s.m = 20
  cnt : ∀ z : Int, 0 ≤ z → z < (i : Int) → s.cnt z = 3
  far : ∀ z : Int, (i : Int) ≤ z → s.cnt z = 0
theorem Ten.new : Ten 0 (new.cap 20) := ⟨new_ok.cap (by decide), rfl, rfl, rfl, fun z h0 h1 => by omega, fun _ _ => rfl⟩
theorem Ten.more {i : Nat} {s : Th} (h : Ten i s) (hi : i < 10) : s.insB i = true ∧ (s.ins i i).has i = true ∧ ((s.ins i i).tch i).has i = true ∧ (((s.ins i i).tch i).tch i).has i = true ∧ Ten (i + 1) ((((s.ins i i).tch i).tch i).tch i) := by
  have hzn : (i : Int) ∉ s.L.flatten := by
    rw [h.L, tflat, List.append_nil]
    intro hm; have := (seg_mem.1 hm).2; omega
  obtain ⟨hb, he⟩ := ins_new (x := (i : Int)) (by omega) (by omega) hzn
  have hL : (s.ins i i).L = [seg 0 (i + 1), []] := by
    rw [he]
    show opFront s.L (if (i : Int) ∈ s.g then 1 else 0) i = _
    rw [h.g, if_neg (by simp)]
    rw [h.L] at hzn ⊢
    rw [(front0 hzn (by omega) (by omega)).1]
    show _ = [((0 + i : Nat) : Int) :: seg 0 i, []]
    rw [Nat.zero_add]
  have hg : (s.ins i i).g = [] := by rw [he]; show Gh.rmL s.g i = _; rw [h.g]; simp [Gh.rmL]
  have hm : (s.ins i i).m = 20 := by rw [he]; exact h.m
  have hc : (s.ins i i).cnt = updN s.cnt i 0 := by rw [he]
  have ok1 := h.ok.ins (i : Int) (i : Int)
  have key : ∀ t : Th, t.L = [seg 0 (i + 1), []] → t.has i = true ∧ (t.tch i).L = t.L ∧ (t.tch i).g = t.g ∧ (t.tch i).m = t.m ∧ (t.tch i).cnt = updN t.cnt i (min 3 (t.cnt i + 1)) := fun t ht => by
    have hh : t.has i = true := arow_some.2 (by rw [ht, tflat, List.append_nil]; exact seg_mem.2 ⟨by omega, by omega⟩)
    refine ⟨hh, ?_⟩
    unfold Th.tch
    rw [if_pos hh]
    exact ⟨rfl, rfl, rfl, rfl⟩
  obtain ⟨a1, a2, a3, a4, a5⟩ := key _ hL
  obtain ⟨b1, b2, b3, b4, b5⟩ := key _ (a2.trans hL)
  obtain ⟨c1, c2, c3, c4, c5⟩ := key _ (b2.trans (a2.trans hL))
  refine ⟨hb, a1, b1, c1, ((ok1.tch _).tch _).tch _, c2.trans (b2.trans (a2.trans hL)), c3.trans (b3.trans (a3.trans hg)), c4.trans (b4.trans (a4.trans hm)), fun z h0 h1 => ?_, fun z h0 => ?_⟩
  · rw [c5]
    by_cases e : z = (i : Int)
    · rw [e, updN_same, b5, updN_same, a5, updN_same, hc, updN_same]; rfl
    · rw [updN_other e, b5, updN_other e, a5, updN_other e, hc, updN_other e]; exact h.cnt z h0 (by omega)
  · have e : z ≠ (i : Int) := by omega
    rw [c5, updN_other e, b5, updN_other e, a5, updN_other e, hc, updN_other e]; exact h.far z (by omega)
theorem Ten.scan {s : Th} (h : Ten 10 s) : Sn 0 0 s := by
  refine ⟨h.ok, ⟨seg 0 10, [], h.L, fun z => by rw [List.append_nil, seg_mem]; constructor <;> intro hh <;> omega, fun z hz => ?_⟩, fun z hz => h.far z (by omega), fun z h0 h1 => by omega, by rw [h.g]; rfl, h.m⟩
  have := seg_mem.1 hz
  rw [h.cnt z (by omega) (by omega)]; decide
end Go.Proofs.Ytkhmgigllcgpnaa.Th
