/-
  Adaptive replacement filled with ids in a row; one that comes back (ArcBack); touches in any order (ArcTwice): plain mathematics. No program in it. No conditions.
-/
import Derived.Test.YtklmgmkeaipppaaArcFacts
namespace Go.Proofs.Ytklmgmkeaipppaa.Ac
open Go

/-- i - 1, .., 1, 0. -/
def dn : Nat → List Int
  | 0 => []
  | i + 1 => (i : Int) :: dn i
theorem dn_mem {i : Nat} {z : Int} : z ∈ dn i ↔ 0 ≤ z ∧ z < i := by
  induction i with
  | zero => simp [dn]
            try omega
  | succ i ih => simp only [dn, List.mem_cons, ih]; omega
theorem dn_len (i : Nat) : (dn i).length = i := by induction i with | zero => rfl | succ i ih => simp [dn, ih]
theorem dn_last (i : Nat) : lastOf (dn (i + 1)) = 0 := by
  induction i with
  | zero => rfl
  | succ i ih =>
    show lastOf ((((i + 1 : Nat)) : Int) :: dn (i + 1)) = 0
    unfold lastOf at ih ⊢
    rw [show dn (i + 1) = (i : Int) :: dn i from rfl] at ih ⊢
    rw [List.getLast?_cons_cons]; exact ih
theorem dn_pair (i : Nat) : (dn i).Pairwise (fun a b => b < a) := by
  induction i with
  | zero => exact List.Pairwise.nil
  | succ i ih =>
    refine List.Pairwise.cons (fun y hy => ?_) ih
    have := dn_mem.1 hy; omega
/-- Filled with i ids. -/
structure Fl (m i : Nat) (s : Ar) : Prop where
  ok : s.Ok
  L : s.L = [dn i, []]
  b1 : s.b1 = []
  b2 : s.b2 = []
  p : s.p = 0
  m : s.m = m
  num : ∀ z : Int, 0 ≤ z → z < (i : Int) → s.num z = z
theorem Fl.new (m : Nat) (hm : (m : Int) ≤ 9223372036854775807) : Fl m 0 (Ar.new.cap m) := by
  refine ⟨Ar.new_ok.cap hm, rfl, by simp [Ar.cap, Ar.new, Gh.cutL], by simp [Ar.cap, Ar.new, Gh.cutL], by simp [Ar.cap, Ar.new], by show ((m : Nat) : Int).toNat = m; omega, fun z h0 h1 => by omega⟩
theorem Fl.ins {m i : Nat} {s : Ar} (h : Fl m i s) (hi : i ≤ 1000) : s.insB i = true ∧ Fl m (i + 1) (s.ins i i) := by
  have hzn : (i : Int) ∉ s.L.flatten := by
    rw [h.L, aflat, List.append_nil]
    intro hm; have := dn_mem.1 hm; omega
  have hh : s.has i = false := by cases e : s.has i; · rfl
                                  · exact absurd (arow_some.1 e) hzn
  have hok : okId (i : Int) = true := decide_eq_true ⟨by omega, by omega⟩
  have hb : s.insB i = true := by unfold Ar.insB; rw [hh, hok]; rfl
  have hev : s.ins i i = ⟨opFront s.L 0 i, s.m, s.b1, s.b2, s.p, updN s.num i i⟩ := by unfold Ar.ins; rw [if_pos hb, if_neg (by rw [h.b1]; simp), if_neg (by rw [h.b2]; simp)]
  have hL : opFront s.L 0 i = [dn (i + 1), []] := by
    rw [opFront_yes (may2 h.ok.two (by decide) (by decide) hok)]
    unfold frontL
    rw [take_no hzn, h.L]; rfl
  refine ⟨hb, h.ok.ins _ _, by rw [hev]; exact hL, by rw [hev]; exact h.b1, by rw [hev]; exact h.b2, by rw [hev]; exact h.p, by rw [hev]; exact h.m, fun z h0 h1 => ?_⟩
  rw [hev]
  show updN s.num i i z = z
  by_cases e : z = i
  · rw [e, updN_same]
  · rw [updN_other e]; exact h.num z h0 (by omega)
theorem add_one {m : Nat} (hm : 1 ≤ m) (z : Int) : Gh.addL m [] z = [z] := by
  unfold Gh.addL
  exact Gh.cut_all (by simp [Gh.rmL]; exact hm)
theorem rm_one (z : Int) : Gh.rmL [z] z = [] := by simp [Gh.rmL]
/-- One that comes back. -/
theorem Fl.back {m : Nat} {s : Ar} (h : Fl m m s) (h1 : 1 ≤ m) (h2 : m ≤ 20) :
    s.vic 999 = 0 ∧ s.has 0 = true ∧ (s.evict 0).insB 100 = true ∧ ((s.evict 0).ins 100 0).p = 1 ∧ rowAt ((s.evict 0).ins 100 0).L 1 = [100] ∧ ((s.evict 0).ins 100 0).b1 = [] ∧ ((s.evict 0).ins 100 0).has 100 = true ∧
      (((s.evict 0).ins 100 0).evict 100).b2 = [0] ∧ (((s.evict 0).ins 100 0).evict 100).insB 200 = true ∧ ((((s.evict 0).ins 100 0).evict 100).ins 200 0).p = 0 ∧ ((((s.evict 0).ins 100 0).evict 100).ins 200 0).b2 = [] ∧ ((s.evict 0).ins 100 0).b2 = [] := by
  obtain ⟨k, rfl⟩ : ∃ k, m = k + 1 := ⟨m - 1, by omega⟩
  have r0 : rowAt s.L 0 = dn (k + 1) := by rw [h.L]; rfl
  have hv : s.vic 999 = 0 := by
    have ho : s.once 999 = true := by
      unfold Ar.once
      rw [r0, h.p, dn_len, decide_eq_true (show 0 < k + 1 by omega)]; rfl
    unfold Ar.vic; rw [ho, r0]; exact dn_last k
  have m0 : (0 : Int) ∈ dn (k + 1) := dn_mem.2 ⟨by omega, by omega⟩
  have hrow : rowOf s.L 0 = some 0 := rowOf_at h.ok.good.nd (i := 0) (l := dn (k + 1)) (by rw [h.L]; rfl) m0
  have hh0 : s.has 0 = true := by unfold Ar.has; rw [hrow]; rfl
  have hn0 : s.num 0 = 0 := h.num 0 (by omega) (by omega)
  have e1 : s.evict 0 = ⟨[(dn (k + 1)).filter (fun y => decide (y ≠ 0)), []], k + 1, [0], [], 0, updN s.num 0 0⟩ := by
    unfold Ar.evict Ar.out
    rw [hrow]
    unfold Ar.rem
    simp only [h.b1, h.b2, h.m, h.p, hn0, h.L, add_one h1]
    rfl
  have ok1 : (s.evict 0).Ok := h.ok.evict 0
  rw [e1] at ok1 ⊢
  generalize hd : (dn (k + 1)).filter (fun y => decide (y ≠ 0)) = d at *
  have hdm : ∀ y ∈ d, y < 20 := fun y hy => by rw [← hd] at hy; have := dn_mem.1 (List.mem_filter.1 hy).1; omega
  generalize updN s.num 0 0 = nm at *
  have hz1 : (100 : Int) ∉ [d, []].flatten := by
    rw [aflat, List.append_nil]; intro hm; have := hdm _ hm; omega
  have hh1 : Ar.has ⟨[d, []], k + 1, [0], [], 0, nm⟩ 100 = false := by
    cases e : Ar.has ⟨[d, []], k + 1, [0], [], 0, nm⟩ 100
    · rfl
    · exact absurd (arow_some.1 e) hz1
  have hb1 : Ar.insB ⟨[d, []], k + 1, [0], [], 0, nm⟩ 100 = true := by unfold Ar.insB; rw [hh1]; rfl
  have hL2 : opFront [d, []] 1 100 = [d, [100]] := by
    rw [opFront_yes (may2 ok1.two (by decide) (by decide) (by decide))]
    unfold frontL
    rw [take_no hz1]; rfl
  have e2 : Ar.ins ⟨[d, []], k + 1, [0], [], 0, nm⟩ 100 0 = ⟨[d, [100]], k + 1, [], [], 1, updN nm 100 0⟩ := by
    unfold Ar.ins
    rw [if_pos hb1, if_pos (by simp)]
    simp only [hL2, rm_one]
    congr 1
    show min (k + 1) (0 + max 1 (0 / 1)) = 1
    rw [Nat.zero_div]; omega
  have ok2 := ok1.ins 100 0
  rw [e2] at ok2 ⊢
  have hrow2 : rowOf [d, [100]] 100 = some 1 := rowOf_at ok2.good.nd (i := 1) (l := [100]) rfl (by simp)
  have hh2 : Ar.has ⟨[d, [100]], k + 1, [], [], 1, updN nm 100 0⟩ 100 = true := by unfold Ar.has; rw [hrow2]; rfl
  have hL3 : takeL [d, [100]] 100 = [d, []] := by
    unfold takeL
    simp only [List.map_cons, List.map_nil]
    rw [List.filter_eq_self.2 (fun y hy => by have := hdm y hy; simp only [decide_eq_true_eq]; omega)]
    rfl
  have e3 : Ar.evict ⟨[d, [100]], k + 1, [], [], 1, updN nm 100 0⟩ 100 = ⟨[d, []], k + 1, [], [0], 1, updN (updN nm 100 0) 100 0⟩ := by
    unfold Ar.evict Ar.out
    simp only [hrow2]
    unfold Ar.rem
    simp only [hL3, updN_same, add_one h1]
  have ok3 := ok2.evict 100
  rw [e3] at ok3 ⊢
  generalize updN (updN nm 100 0) 100 0 = nm2 at *
  have hz3 : (200 : Int) ∉ [d, []].flatten := by
    rw [aflat, List.append_nil]; intro hm; have := hdm _ hm; omega
  have hh3 : Ar.has ⟨[d, []], k + 1, [], [0], 1, nm2⟩ 200 = false := by
    cases e : Ar.has ⟨[d, []], k + 1, [], [0], 1, nm2⟩ 200
    · rfl
    · exact absurd (arow_some.1 e) hz3
  have hb3 : Ar.insB ⟨[d, []], k + 1, [], [0], 1, nm2⟩ 200 = true := by unfold Ar.insB; rw [hh3]; rfl
  have e4 : (Ar.ins ⟨[d, []], k + 1, [], [0], 1, nm2⟩ 200 0).p = 0 ∧ (Ar.ins ⟨[d, []], k + 1, [], [0], 1, nm2⟩ 200 0).b2 = [] := by
    unfold Ar.ins
    rw [if_pos hb3, if_neg (by simp), if_pos (by simp)]
    exact ⟨by show 1 - max 1 (0 / 1) = 0; rw [Nat.zero_div]; omega, rm_one 0⟩
  exact ⟨hv, hh0, hb1, rfl, rfl, rfl, hh2, rfl, hb3, e4.1, e4.2, rfl⟩

theorem evict_p (s : Ar) (z : Int) : (s.evict z).p = s.p := (out_L s z).2.2.2

/-! Touches -/
/-- Of n ids those that were touched stand in again, the last one first; last tells when, and one more. -/
structure Tw (n i : Nat) (last : Nat → Nat) (s : Ar) : Prop where
  ok : s.Ok
  mem : ∀ z, z ∈ s.L.flatten ↔ 0 ≤ z ∧ z < (n : Int)
  once : ∀ z ∈ rowAt s.L 0, last z.toNat = 0
  onceP : (rowAt s.L 0).Pairwise (fun a b => b < a)
  again : ∀ z ∈ rowAt s.L 1, last z.toNat ≠ 0
  againP : (rowAt s.L 1).Pairwise (fun a b => last b.toNat < last a.toNat)
  le : ∀ k, last k ≤ i
theorem Fl.tw {m n : Nat} {s : Ar} (h : Fl m n s) : Tw n 0 (fun _ => 0) s := by
  refine ⟨h.ok, fun z => by rw [h.L, aflat, List.append_nil]; exact dn_mem, fun _ _ => rfl, ?_, fun z hz => ?_, ?_, fun _ => Nat.le_refl _⟩
  · rw [h.L]; exact dn_pair n
  · rw [h.L] at hz; exact absurd hz (by show z ∉ ([] : List Int); simp)
  · rw [h.L]; exact List.Pairwise.nil
def updL (f : Nat → Nat) (k x : Nat) : Nat → Nat := fun j => if j = k then x else f j
theorem Tw.skip {n i : Nat} {last : Nat → Nat} {s : Ar} (h : Tw n i last s) : Tw n (i + 1) last s := ⟨h.ok, h.mem, h.once, h.onceP, h.again, h.againP, fun k => Nat.le_succ_of_le (h.le k)⟩
theorem Tw.tch {n i : Nat} {last : Nat → Nat} {s : Ar} (h : Tw n i last s) {k : Nat} (hk : k < n) : s.has k = true ∧ Tw n (i + 1) (updL last k (i + 1)) (s.tch k) := by
  have hm : (k : Int) ∈ s.L.flatten := (h.mem k).2 ⟨by omega, by omega⟩
  have hh : s.has k = true := arow_some.2 hm
  obtain ⟨o, g, e⟩ := arows h.ok.two
  have hMay := may2 h.ok.two (r := 1) (z := k) (by decide) (by decide) (decide_eq_true (h.ok.good.rng _ hm))
  have et : (s.tch k).L = [o.filter (fun y => decide (y ≠ (k : Int))), (k : Int) :: g.filter (fun y => decide (y ≠ (k : Int)))] := by
    unfold Ar.tch
    rw [if_pos hh]
    show opFront s.L 1 k = _
    rw [opFront_yes hMay, e]; rfl
  have h0 := h.once
  have h1 := h.again
  have p0 := h.onceP
  have p1 := h.againP
  rw [e] at h0 h1 p0 p1
  replace h0 : ∀ z ∈ o, last z.toNat = 0 := h0
  replace h1 : ∀ z ∈ g, last z.toNat ≠ 0 := h1
  replace p0 : o.Pairwise (fun a b => b < a) := p0
  replace p1 : g.Pairwise (fun a b => last b.toNat < last a.toNat) := p1
  have hpos : ∀ z, z ∈ s.L.flatten → 0 ≤ z := fun z hz => ((h.mem z).1 hz).1
  have hup : ∀ z, z ∈ s.L.flatten → z ≠ (k : Int) → updL last k (i + 1) z.toNat = last z.toNat := fun z hz hne => by
    unfold updL; rw [if_neg]; have := hpos z hz; omega
  have hino : ∀ z ∈ o, z ∈ s.L.flatten := fun z hz => by rw [e, aflat]; exact List.mem_append.2 (.inl hz)
  have hing : ∀ z ∈ g, z ∈ s.L.flatten := fun z hz => by rw [e, aflat]; exact List.mem_append.2 (.inr hz)
  refine ⟨hh, h.ok.tch _, fun z => by rw [atch_mem h.ok]; exact h.mem z, ?_, ?_, ?_, ?_, fun j => ?_⟩
  · rw [et]
    intro z hz
    obtain ⟨hz1, hz2⟩ := List.mem_filter.1 (show z ∈ o.filter (fun y => decide (y ≠ (k : Int))) from hz)
    rw [hup z (hino z hz1) (by simpa using hz2)]; exact h0 z hz1
  · rw [et]; exact p0.sublist List.filter_sublist
  · rw [et]
    intro z hz
    rcases List.mem_cons.1 (show z ∈ (k : Int) :: g.filter (fun y => decide (y ≠ (k : Int))) from hz) with e1 | e1
    · rw [e1]; unfold updL; rw [if_pos (by omega)]; omega
    · obtain ⟨hz1, hz2⟩ := List.mem_filter.1 e1
      rw [hup z (hing z hz1) (by simpa using hz2)]; exact h1 z hz1
  · rw [et]
    refine List.Pairwise.cons (fun y hy => ?_) ?_
    · obtain ⟨hz1, hz2⟩ := List.mem_filter.1 hy
      rw [hup y (hing y hz1) (by simpa using hz2)]
      unfold updL
      rw [if_pos (by omega)]
      have := h.le y.toNat; omega
    · refine List.Pairwise.imp_of_mem (fun {a b} ha hb hab => ?_) (p1.sublist (List.filter_sublist (p := fun y => decide (y ≠ (k : Int)))))
      obtain ⟨ha1, ha2⟩ := List.mem_filter.1 ha
      obtain ⟨hb1, hb2⟩ := List.mem_filter.1 hb
      rw [hup a (hing a ha1) (by simpa using ha2), hup b (hing b hb1) (by simpa using hb2)]; exact hab
  · unfold updL
    split
    · omega
    · have := h.le j; omega
theorem Tw.tot {n i : Nat} {last : Nat → Nat} {s : Ar} (h : Tw n i last s) : s.tot = n := by
  rw [Ar.tot_eq h.ok, ← dn_len n]
  have hnd : (dn n).Nodup := (dn_pair n).imp (fun hab e => by omega)
  exact perm_len h.ok.good.nd hnd (fun y => by rw [h.mem y, dn_mem])
end Go.Proofs.Ytklmgmkeaipppaa.Ac
