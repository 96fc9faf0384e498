/-
  What three queues keep, as plain mathematics: who is looked for stands and is told again (SthreeTells), nobody touched (SthreeFirst), one that comes back (SthreeBack), a scan (SthreeScan). No program in it. No conditions.
-/
import Derived.Test.YtkhmgigllcgpnaaThMath
namespace Go.Proofs.Ytkhmgigllcgpnaa.Th
open Go

/-- What looking leaves. -/
structure Looked (s t : Th) : Prop where
  ok : t.Ok
  end_ : t.end_ = true
  mem : ∀ y, y ∈ t.L.flatten ↔ y ∈ s.L.flatten
  num : t.num = s.num
  g : t.g = s.g
  m : t.m = s.m
  vic : s.vic = (t.at_, t)
theorem looked : ∀ (k : Nat) {s : Th}, s.Ok → s.pot < k → Looked s s.vic.2
  | 0, _, _, h => absurd h (Nat.not_lt_zero _)
  | k + 1, s, ok, h => by
    cases he : s.end_
    · have hp := look_pot ok he
      have ih := looked k (ok.look he) (by omega)
      have h0 := (end_no he).1
      rw [vic_look ok he]
      exact ⟨ih.ok, ih.end_, fun y => (ih.mem y).trans (look_mem ok h0), ih.num, ih.g, ih.m, by rw [vic_look ok he]; exact ih.vic⟩
    · rw [vic_end he]
      exact ⟨ok, he, fun _ => Iff.rfl, rfl, rfl, rfl, vic_end he⟩
theorem Th.Ok.looked {s : Th} (h : s.Ok) : Looked s s.vic.2 := Th.looked _ h (Nat.lt_succ_self _)
theorem tflat (p q : List Int) : [p, q].flatten = p ++ q := by simp
def Th.tot (s : Th) : Nat := (rowAt s.L 0).length + (rowAt s.L 1).length
theorem tot_eq {s : Th} (h : s.Ok) : s.tot = s.L.flatten.length := by
  obtain ⟨p, q, e⟩ := rows2 h.two
  unfold Th.tot
  rw [e, tflat, List.length_append]; rfl
theorem perm_len {l m : List Int} (h1 : l.Nodup) (h2 : m.Nodup) (h : ∀ y, y ∈ l ↔ y ∈ m) : l.length = m.length := ((List.perm_ext_iff_of_nodup h1 h2).2 h).length_eq
theorem Looked.tot {s t : Th} (h : Looked s t) (ok : s.Ok) : t.tot = s.tot := by
  rw [tot_eq ok, tot_eq h.ok]
  exact perm_len h.ok.good.nd ok.good.nd h.mem
theorem last_in {l : List Int} (h : l ≠ []) : lastOf l ∈ l := by
  rcases List.eq_nil_or_concat l with e | ⟨l', z, e⟩
  · exact absurd e h
  · have : lastOf l = z := by rw [e]; unfold lastOf; simp
    rw [this, e]; simp
theorem at_stands {s : Th} (h : s.Ok) (hn : 0 < s.tot) : s.at_ ∈ s.L.flatten := by
  obtain ⟨p, q, e⟩ := rows2 h.two
  have ht : s.tot = p.length + q.length := by unfold Th.tot; rw [e]; rfl
  have hs : s.sm = (decide (0 < p.length) && (decide (max 1 (s.m / 10) < p.length) || decide (q.length = 0))) := by unfold Th.sm; rw [e]; rfl
  have hat : s.at_ = if s.sm then lastOf p else lastOf q := by unfold Th.at_; rw [e]; rfl
  rw [e, tflat, hat, List.mem_append]
  cases hc : s.sm
  · right
    refine last_in (l := q) (fun e2 => ?_)
    rw [hs, e2] at hc
    rw [e2] at ht
    have h0 : 0 < p.length := by simpa [ht] using hn
    simp [h0] at hc
  · left
    refine last_in (l := p) (fun e2 => ?_)
    rw [hs, e2] at hc
    simp at hc
/-- Told, and told again: the same; it stands, its count is at most 1. -/
theorem tells {s : Th} (h : s.Ok) : s.vic.2.vic.1 = s.vic.1 ∧ s.vic.2.vic.2 = s.vic.2 ∧ s.vic.2.tot = s.tot ∧ (s.tot = 0 → s.vic.1 = -1) ∧ (0 < s.tot → s.vic.1 ∈ s.vic.2.L.flatten ∧ s.vic.2.cnt s.vic.1 ≤ 1) := by
  have hl := h.looked
  have hv := hl.vic
  have h1 : s.vic.1 = s.vic.2.at_ := by rw [hv]
  have hv2 := vic_end hl.end_
  have ht := hl.tot h
  refine ⟨by rw [hv2, h1], by rw [hv2], ht, fun h0 => ?_, fun h0 => ?_⟩
  · rw [h1]
    have hz : s.vic.2.tot = 0 := by omega
    obtain ⟨p, q, e⟩ := rows2 hl.ok.two
    have : p = [] ∧ q = [] := by
      unfold Th.tot at hz
      rw [e] at hz
      have hp : p.length + q.length = 0 := hz
      exact ⟨List.eq_nil_of_length_eq_zero (by omega), List.eq_nil_of_length_eq_zero (by omega)⟩
    obtain ⟨rfl, rfl⟩ := this
    unfold Th.at_
    rw [e]
    split <;> rfl
  · rw [h1]
    have hin := at_stands hl.ok (by omega)
    have h2 := (hl.ok.good.rng _ hin).1
    have he := hl.end_
    unfold Th.end_ at he
    rw [decide_eq_false (show ¬ s.vic.2.at_ < 0 by omega), Bool.false_or] at he
    have := of_decide_eq_true he
    refine ⟨hin, ?_⟩
    split at this <;> omega

/-! Filled with ids in a row, nobody touched -/
theorem end_is' {t : Th} {z : Int} (hat : t.at_ = z) (h0 : 0 ≤ z) : t.end_ = decide (t.cnt z < if t.sm then 2 else 1) := by
  unfold Th.end_
  rw [hat, decide_eq_false (by omega), Bool.false_or]
theorem evict_small {s : Th} {z : Int} (hrow : rowOf s.L z = some 0) : s.evict z = ⟨takeL s.L z, Gh.addL s.m s.g (s.num z), s.m, updN s.num z 0, updN s.cnt z 0⟩ := by
  have hout : s.out z = { s with g := Gh.addL s.m s.g (s.num z) } := by unfold Th.out; rw [if_pos hrow]
  unfold Th.evict
  rw [hout]
  unfold Th.rem Th.has
  simp only [hrow]
  rfl
theorem ins_new {s : Th} {z x : Int} (h0 : 0 ≤ z) (h1 : z ≤ 4194303) (hz : z ∉ s.L.flatten) : s.insB z = true ∧ s.ins z x = ⟨opFront s.L (if x ∈ s.g then 1 else 0) z, Gh.rmL s.g x, s.m, updN s.num z x, updN s.cnt z 0⟩ := by
  have hh : s.has z = false := by cases e : s.has z; · rfl
                                  · exact absurd (arow_some.1 e) hz
  have hok : okId z = true := decide_eq_true ⟨h0, h1⟩
  have hb : s.insB z = true := by unfold Th.insB; rw [hh, hok]; rfl
  exact ⟨hb, by unfold Th.ins; rw [if_pos hb]⟩
theorem front0 {p q : List Int} {z : Int} (hz : z ∉ [p, q].flatten) (h0 : 0 ≤ z) (h1 : z ≤ 4194303) : opFront [p, q] 0 z = [z :: p, q] ∧ opFront [p, q] 1 z = [p, z :: q] := by
  have hm : ∀ r : Int, 0 ≤ r → r < 2 → May [p, q].length r z := fun r r0 r1 => may2 rfl r0 r1 (decide_eq_true ⟨h0, h1⟩)
  rw [opFront_yes (hm 0 (by decide) (by decide)), opFront_yes (hm 1 (by decide) (by decide))]
  unfold frontL
  rw [take_no hz]
  exact ⟨rfl, rfl⟩
/-- n - 1, .., i. -/
def seg (i : Nat) : Nat → List Int
  | 0 => []
  | k + 1 => ((i + k : Nat) : Int) :: seg i k
theorem seg_mem {i k : Nat} {z : Int} : z ∈ seg i k ↔ (i : Int) ≤ z ∧ z < ((i + k : Nat) : Int) := by
  induction k with
  | zero => simp only [seg, List.not_mem_nil, false_iff]; omega
  | succ k ih => simp only [seg, List.mem_cons, ih]; omega
theorem seg_len (i k : Nat) : (seg i k).length = k := by induction k with | zero => rfl | succ k ih => simp [seg, ih]
theorem seg_cut (i k : Nat) : seg i (k + 1) = seg (i + 1) k ++ [(i : Int)] := by
  induction k with
  | zero => rfl
  | succ k ih =>
    rw [seg, ih]
    show _ = ((i + 1 + k : Nat) : Int) :: (seg (i + 1) k ++ [(i : Int)])
    rw [show i + (k + 1) = i + 1 + k by omega]
/-- Ids i .. i + k - 1 in small, the ghost has the last ones of 0 .. i - 1. -/
structure Fs (m i k : Nat) (s : Th) : Prop where
  ok : s.Ok
  L : s.L = [seg i k, []]
  g : s.g = Gh.cutL m ((List.range i).map (fun j : Nat => (j : Int)))
  m : s.m = m
  num : ∀ z : Int, (i : Int) ≤ z → z < ((i + k : Nat) : Int) → s.num z = z
  cnt : ∀ z, s.cnt z = 0
theorem Fs.new (m : Nat) (hm : (m : Int) ≤ 9223372036854775807) : Fs m 0 0 (new.cap m) :=
  ⟨new_ok.cap hm, rfl, by
    have e : ((m : Nat) : Int).toNat = m := by omega
    show Gh.cutL ((m : Nat) : Int).toNat [] = _
    rw [e]; rfl, by show ((m : Nat) : Int).toNat = m; omega, fun z h0 h1 => by omega, fun _ => rfl⟩
theorem Fs.ins {m k : Nat} {s : Th} (h : Fs m 0 k s) (hk : k ≤ 1000) : s.insB k = true ∧ Fs m 0 (k + 1) (s.ins k k) := by
  have hzn : (k : Int) ∉ s.L.flatten := by
    rw [h.L, tflat, List.append_nil]
    intro hm; have := (seg_mem.1 hm).2; omega
  obtain ⟨hb, he⟩ := ins_new (x := k) (by omega) (by omega) hzn
  have hg : s.g = [] := by rw [h.g]; unfold Gh.cutL; simp
  have hL : opFront s.L 0 k = [seg 0 (k + 1), []] := by
    rw [h.L] at hzn ⊢
    rw [(front0 hzn (by omega) (by omega)).1]
    show _ = [((0 + k : Nat) : Int) :: seg 0 k, []]
    rw [Nat.zero_add]
  refine ⟨hb, h.ok.ins _ _, by rw [he]; show opFront s.L (if (k : Int) ∈ s.g then 1 else 0) k = _; rw [hg, if_neg (by simp)]; exact hL, by rw [he]; show Gh.rmL s.g k = _; rw [hg]; unfold Gh.cutL; simp [Gh.rmL], by rw [he]; exact h.m, fun z h0 h1 => ?_, fun z => ?_⟩
  · rw [he]
    show updN s.num k k z = z
    by_cases e : z = (k : Int)
    · rw [e, updN_same]
    · rw [updN_other e]; exact h.num z h0 (by omega)
  · rw [he]
    show updN s.cnt k 0 z = 0
    by_cases e : z = (k : Int)
    · rw [e, updN_same]
    · rw [updN_other e]; exact h.cnt z
/-- Who came first goes first. -/
theorem Fs.evict {m i k : Nat} {s : Th} (h : Fs m i (k + 1) s) : s.vic = ((i : Int), s) ∧ s.has i = true ∧ Fs m (i + 1) k (s.evict i) := by
  have hL := h.L
  rw [seg_cut] at hL
  have r0 : rowAt s.L 0 = seg (i + 1) k ++ [(i : Int)] := by rw [hL]; rfl
  have hsm : s.sm = true := by
    unfold Th.sm
    rw [r0, show (rowAt s.L 1).length = 0 by rw [hL]; rfl]
    simp
  have hat : s.at_ = (i : Int) := by
    unfold Th.at_
    rw [hsm, r0]
    show lastOf (seg (i + 1) k ++ [(i : Int)]) = (i : Int)
    unfold lastOf; simp
  have hend : s.end_ = true := by
    unfold Th.end_
    rw [hat, hsm, h.cnt]
    simp
  have hno : (i : Int) ∉ seg (i + 1) k := fun hm => by have := (seg_mem.1 hm).1; omega
  have hrow : rowOf s.L i = some 0 := rowOf_at h.ok.good.nd (i := 0) (l := seg (i + 1) k ++ [(i : Int)]) (by rw [hL]; rfl) (by simp)
  have hh : s.has i = true := by unfold Th.has; rw [hrow]; rfl
  have hni : s.num i = i := h.num i (Int.le_refl _) (by omega)
  have hev : s.evict i = ⟨takeL s.L i, Gh.addL s.m s.g i, s.m, updN s.num i 0, updN s.cnt i 0⟩ := by rw [evict_small hrow, hni]
  have htk : takeL s.L i = [seg (i + 1) k, []] := by
    rw [hL]
    unfold takeL
    simp only [List.map_cons, List.map_nil]
    rw [filt_snoc_no hno]; rfl
  refine ⟨by rw [vic_end hend, hat], hh, h.ok.evict i, by rw [hev]; exact htk, ?_, by rw [hev]; exact h.m, fun z h0 h1 => ?_, fun z => ?_⟩
  · rw [hev]
    show Gh.addL s.m s.g i = _
    rw [h.g, h.m]
    have hnot : (i : Int) ∉ Gh.cutL m ((List.range i).map (fun j : Nat => (j : Int))) := fun hm => by
      unfold Gh.cutL at hm
      have := (List.drop_sublist _ _).mem hm
      obtain ⟨j, hj, hj2⟩ := List.mem_map.1 this
      have := List.mem_range.1 hj
      omega
    unfold Gh.addL
    rw [Gh.rm_no hnot, List.range_succ, List.map_append]
    show Gh.cutL m (Gh.cutL m _ ++ [(i : Int)]) = Gh.cutL m (_ ++ [(i : Int)])
    generalize (List.range i).map (fun j : Nat => (j : Int)) = l
    cases m with
    | zero => rw [Gh.cut_zero, Gh.cut_zero]
    | succ m =>
      rw [Gh.cut_snoc (by omega), Gh.cut_snoc (by omega), Gh.cut_cut (by omega)]
  · rw [hev]
    show updN s.num i 0 z = z
    rw [updN_other (by omega)]; exact h.num z (by omega) (by omega)
  · rw [hev]
    show updN s.cnt i 0 z = 0
    by_cases e : z = (i : Int)
    · rw [e, updN_same]
    · rw [updN_other e]; exact h.cnt z
theorem Fs.none {m i : Nat} {s : Th} (h : Fs m i 0 s) : s.vic = (-1, s) := by
  have hat : s.at_ = -1 := by
    unfold Th.at_
    rw [h.L]
    split <;> rfl
  have hend : s.end_ = true := by unfold Th.end_; rw [hat]; rfl
  rw [vic_end hend, hat]

/-! One that comes back -/
theorem back_one {z x : Int} : Gh.addL 10 [] z = [z] ∧ Gh.rmL [z] z = [] ∧ (x ≠ z → Gh.rmL [z] x = [z]) := by
  refine ⟨?_, by simp [Gh.rmL], fun h => by simp [Gh.rmL, Ne.symm h]⟩
  unfold Gh.addL
  exact Gh.cut_all (by simp [Gh.rmL])
def st0 : Th := new.cap 10
theorem st0_ok : st0.Ok := new_ok.cap (by decide)
theorem st0_is : st0 = ⟨[[], []], [], 10, fun _ => 0, fun _ => 0⟩ := by unfold st0 Th.cap new; simp [Gh.cutL]
/-- What SthreeBack asks. -/
theorem back (h o : Int) : (st0.ins 1 h).has 1 = true ∧ ((st0.ins 1 h).evict 1).g = [h] ∧ ((st0.ins 1 h).evict 1).insB 2 = true ∧ (((st0.ins 1 h).evict 1).ins 2 o).insB 3 = true ∧
    (o = h → ((((st0.ins 1 h).evict 1).ins 2 o).ins 3 h).L = [[3], [2]]) ∧ (o ≠ h → ((((st0.ins 1 h).evict 1).ins 2 o).ins 3 h).L = [[2], [3]] ∧ ((((st0.ins 1 h).evict 1).ins 2 o).ins 3 h).g = []) := by
  have ok0 := st0_ok
  obtain ⟨_, e1⟩ := ins_new (s := st0) (z := 1) (x := h) (by decide) (by decide) (by rw [st0_is]; simp)
  have ok1 := ok0.ins 1 h
  rw [e1] at ok1 ⊢
  rw [st0_is] at ok1 ⊢
  simp only [List.not_mem_nil, if_false, (front0 (p := []) (q := []) (z := 1) (by simp) (by decide) (by decide)).1, show Gh.rmL [] h = [] by simp [Gh.rmL]] at ok1 ⊢
  generalize hn1 : updN (fun _ : Int => (0 : Int)) 1 h = nm at *
  generalize updN (fun _ : Int => (0 : Nat)) 1 0 = ct at *
  have hnm : nm 1 = h := by rw [← hn1, updN_same]
  have hrow : rowOf [[1], []] 1 = some 0 := by decide
  have hh : Th.has ⟨[[1], []], [], 10, nm, ct⟩ 1 = true := by unfold Th.has; rw [hrow]; rfl
  have e2 : Th.evict ⟨[[1], []], [], 10, nm, ct⟩ 1 = ⟨[[], []], [h], 10, updN nm 1 0, updN ct 1 0⟩ := by
    rw [evict_small hrow]
    simp only [hnm, (back_one (z := h) (x := h)).1]
    congr 1
  have ok2 := ok1.evict 1
  rw [e2] at ok2 ⊢
  generalize updN nm 1 0 = nm2 at *
  generalize updN ct 1 0 = ct2 at *
  obtain ⟨b3, e3⟩ := ins_new (s := ⟨[[], []], [h], 10, nm2, ct2⟩) (z := 2) (x := o) (by decide) (by decide) (by simp)
  have ok3 := ok2.ins 2 o
  rw [e3] at ok3 ⊢
  have f2 := front0 (p := []) (q := []) (z := 2) (by simp) (by decide) (by decide)
  by_cases ho : o = h
  · subst ho
    simp only [List.mem_singleton, if_true, f2.2, (back_one (z := o) (x := o)).2.1] at ok3 ⊢
    obtain ⟨b4, e4⟩ := ins_new (s := ⟨[[], [2]], [], 10, updN nm2 2 o, updN ct2 2 0⟩) (z := 3) (x := o) (by decide) (by decide) (by simp)
    refine ⟨hh, trivial, b3, b4, fun _ => ?_, fun hne => absurd rfl hne⟩
    rw [e4]
    show opFront [[], [2]] (if o ∈ ([] : List Int) then 1 else 0) 3 = _
    rw [if_neg (by simp)]
    exact (front0 (by simp) (by decide) (by decide)).1
  · simp only [List.mem_singleton, ho, if_false, f2.1, (back_one (z := h) (x := o)).2.2 ho] at ok3 ⊢
    obtain ⟨b4, e4⟩ := ins_new (s := ⟨[[2], []], [h], 10, updN nm2 2 o, updN ct2 2 0⟩) (z := 3) (x := h) (by decide) (by decide) (by simp)
    refine ⟨hh, trivial, b3, b4, fun e => e.elim, fun _ => ?_⟩
    rw [e4]
    refine ⟨?_, (back_one (z := h) (x := h)).2.1⟩
    show opFront [[2], []] (if h ∈ [h] then 1 else 0) 3 = _
    rw [if_pos (by simp)]
    exact (front0 (by simp) (by decide) (by decide)).2
end Go.Proofs.Ytkhmgigllcgpnaa.Th
