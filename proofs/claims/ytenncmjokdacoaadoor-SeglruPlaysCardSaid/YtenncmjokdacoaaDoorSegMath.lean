/-
  Plain mathematics of a segmented row: three rows of ids and who is active; what Insert, Touch, Remove and Step make of them; that steps come to an end. No program in it. No conditions.
-/
import Derived.Test.YtenncmjokdacoaaDoorRowsTwo
namespace Go.Proofs.YtenncmjokdacoaaDoor.Sr
open Go

structure Sg where
  L : List (List Int)
  a : Int → Bool
def updB (a : Int → Bool) (z : Int) (b : Bool) : Int → Bool := fun y => if y = z then b else a y
theorem updB_same (a : Int → Bool) (z : Int) (b : Bool) : updB a z b z = b := if_pos rfl
theorem updB_other {a : Int → Bool} {y z : Int} (h : y ≠ z) (b : Bool) : updB a z b y = a y := if_neg h
def Sg.has (s : Sg) (z : Int) : Bool := (rowOf s.L z).isSome
def Sg.ins (s : Sg) (z : Int) : Sg := if s.has z then s else ⟨opFront s.L 0 z, s.a⟩
def Sg.insB (s : Sg) (z : Int) : Bool := !s.has z && decide (May s.L.length 0 z)
def Sg.tch (s : Sg) (z : Int) : Sg := if s.has z then ⟨s.L, updB s.a z true⟩ else s
def Sg.rem (s : Sg) (z : Int) : Sg := ⟨takeL s.L z, updB s.a z false⟩
def Sg.vic (s : Sg) : Int := if 0 ≤ lastOf (rowAt s.L 2) then lastOf (rowAt s.L 2) else if 0 ≤ lastOf (rowAt s.L 1) then lastOf (rowAt s.L 1) else lastOf (rowAt s.L 0)
def Sg.n (s : Sg) : Nat := (rowAt s.L 0).length + (rowAt s.L 1).length + (rowAt s.L 2).length
/-- Who is to go on; -1: nobody. -/
def Sg.pick (s : Sg) : Int :=
  if 20 * s.n / 100 < (rowAt s.L 0).length then lastOf (rowAt s.L 0)
  else if 40 * s.n / 100 < (rowAt s.L 1).length then lastOf (rowAt s.L 1)
  else if s.a (lastOf (rowAt s.L 2)) then lastOf (rowAt s.L 2) else -1
def Sg.stpB (s : Sg) : Bool := decide (0 ≤ s.pick)
def Sg.stp (s : Sg) : Sg := if 0 ≤ s.pick then ⟨opFront s.L (if s.a s.pick then 1 else 2) s.pick, updB s.a s.pick false⟩ else s
def Sg.new : Sg := ⟨[[], [], []], fun _ => false⟩
structure Sg.Ok (s : Sg) : Prop where
  good : GoodL s.L
  three : s.L.length = 3
  act : ∀ z, s.a z = true → z ∈ s.L.flatten
theorem Sg.new_ok : Sg.new.Ok := ⟨⟨by decide, by decide, by decide, by intro z hz; simp [Sg.new] at hz⟩, rfl, fun z h => by simp [Sg.new] at h⟩
theorem has_iff {s : Sg} {z : Int} : s.has z = true ↔ z ∈ s.L.flatten := by
  unfold Sg.has
  constructor
  · intro h
    apply Decidable.byContradiction
    intro hn
    rw [rowOf_none'.2 hn] at h; cases h
  · intro h
    cases e : rowOf s.L z with
    | none => exact absurd h (rowOf_none'.1 e)
    | some i => rfl
theorem has_no {s : Sg} {z : Int} : s.has z = false ↔ z ∉ s.L.flatten := by
  rw [← has_iff]; cases s.has z <;> simp
theorem mem_take_iff {L : List (List Int)} {z y : Int} : y ∈ (takeL L z).flatten ↔ y ∈ L.flatten ∧ y ≠ z := mem_take
theorem mem_frontL {L : List (List Int)} {i : Nat} (hi : i < L.length) {z y : Int} : y ∈ (frontL L i z).flatten ↔ y = z ∨ y ∈ L.flatten := by
  have hi' : (takeL L z)[i]? = some ([] ++ (takeL L z)[i]?.getD []) := by
    rw [List.getElem?_eq_getElem (by rw [takeL_len]; exact hi)]; rfl
  have p := flat_ins z hi'
  unfold frontL
  rw [show (takeL L z)[i]?.getD [] = [] ++ (takeL L z)[i]?.getD [] from rfl]
  rw [show z :: ([] ++ (takeL L z)[i]?.getD []) = [] ++ z :: (takeL L z)[i]?.getD [] from rfl]
  rw [p.mem_iff, List.mem_cons, mem_take]
  by_cases e : y = z
  · simp [e]
  · simp [e]
theorem opF_good {L : List (List Int)} (h : GoodL L) (r z : Int) : GoodL (opFront L r z) := by
  by_cases hm : May L.length r z
  · rw [opFront_yes hm]
    unfold May at hm
    exact h.front (by omega) (by omega) (by omega)
  · rw [opFront_no hm]; exact h
theorem opF_mem {L : List (List Int)} {r z y : Int} (hm : May L.length r z) : y ∈ (opFront L r z).flatten ↔ y = z ∨ y ∈ L.flatten := by
  rw [opFront_yes hm]
  unfold May at hm
  exact mem_frontL (by omega)
theorem may3 {s : Sg} (h : s.Ok) {r z : Int} : May s.L.length r z ↔ 0 ≤ r ∧ r < 3 ∧ 0 ≤ z ∧ z ≤ 4194303 := by unfold May; rw [h.three]; simp
theorem Sg.Ok.ins {s : Sg} (h : s.Ok) (z : Int) : (s.ins z).Ok := by
  unfold Sg.ins
  split
  · exact h
  · refine ⟨opF_good h.good _ _, by show (opFront _ _ _).length = 3; rw [opFront_len]; exact h.three, fun y hy => ?_⟩
    show y ∈ (opFront s.L 0 z).flatten
    by_cases hm : May s.L.length 0 z
    · exact (opF_mem hm).2 (.inr (h.act y hy))
    · rw [opFront_no hm]; exact h.act y hy
theorem Sg.Ok.tch {s : Sg} (h : s.Ok) (z : Int) : (s.tch z).Ok := by
  unfold Sg.tch
  split
  · rename_i hz
    refine ⟨h.good, h.three, fun y hy => ?_⟩
    by_cases e : y = z
    · subst e; exact has_iff.1 hz
    · exact h.act y ((updB_other (a := s.a) e true).symm.trans hy)
  · exact h
theorem Sg.Ok.rem {s : Sg} (h : s.Ok) (z : Int) : (s.rem z).Ok := by
  refine ⟨h.good.take z, by show (takeL _ _).length = 3; rw [takeL_len]; exact h.three, fun y hy => ?_⟩
  have hy' : updB s.a z false y = true := hy
  by_cases e : y = z
  · subst e; rw [updB_same] at hy'; cases hy'
  · rw [updB_other e] at hy'
    exact mem_take.2 ⟨h.act y hy', e⟩

/-! The three rows by name -/
theorem Sg.Ok.rows {s : Sg} (h : s.Ok) : ∃ p q c, s.L = [p, q, c] := by
  have h3 := h.three
  match e : s.L, h3 with
  | [p, q, c], _ => exact ⟨p, q, c, rfl⟩
theorem row3 (p q c : List Int) : rowAt [p, q, c] 0 = p ∧ rowAt [p, q, c] 1 = q ∧ rowAt [p, q, c] 2 = c := ⟨rfl, rfl, rfl⟩
theorem flat3 (p q c : List Int) : [p, q, c].flatten = p ++ (q ++ c) := by simp
theorem last_none : lastOf [] = -1 := rfl
theorem last_some (l : List Int) (z : Int) : lastOf (l ++ [z]) = z := by unfold lastOf; simp
theorem snoc_or (l : List Int) : l = [] ∨ ∃ l' z, l = l' ++ [z] := by
  rcases List.eq_nil_or_concat l with h | ⟨l', z, h⟩
  · exact .inl h
  · exact .inr ⟨l', z, by rw [h]; simp⟩
theorem filt_no {l : List Int} {z : Int} (h : z ∉ l) : l.filter (fun y => decide (y ≠ z)) = l :=
  List.filter_eq_self.2 (fun y hy => by simp only [decide_eq_true_eq]; rintro rfl; exact h hy)
theorem filt_snoc_no {l : List Int} {z : Int} (h : z ∉ l) : (l ++ [z]).filter (fun y => decide (y ≠ z)) = l := by
  rw [List.filter_append, filt_no h]; simp
/-- The one at the end of a row goes to the front of another one. -/
theorem front_from0 {p q c : List Int} {z : Int} (h : z ∉ p ∧ z ∉ q ∧ z ∉ c) : frontL [p ++ [z], q, c] 1 z = [p, z :: q, c] ∧ frontL [p ++ [z], q, c] 2 z = [p, q, z :: c] := by
  have e : takeL [p ++ [z], q, c] z = [p, q, c] := by unfold takeL; simp only [List.map_cons, List.map_nil]; rw [filt_snoc_no h.1, filt_no h.2.1, filt_no h.2.2]
  unfold frontL; rw [e]; exact ⟨rfl, rfl⟩
theorem front_from1 {p q c : List Int} {z : Int} (h : z ∉ p ∧ z ∉ q ∧ z ∉ c) : frontL [p, q ++ [z], c] 1 z = [p, z :: q, c] ∧ frontL [p, q ++ [z], c] 2 z = [p, q, z :: c] := by
  have e : takeL [p, q ++ [z], c] z = [p, q, c] := by unfold takeL; simp only [List.map_cons, List.map_nil]; rw [filt_snoc_no h.2.1, filt_no h.1, filt_no h.2.2]
  unfold frontL; rw [e]; exact ⟨rfl, rfl⟩
theorem front_from2 {p q c : List Int} {z : Int} (h : z ∉ p ∧ z ∉ q ∧ z ∉ c) : frontL [p, q, c ++ [z]] 1 z = [p, z :: q, c] := by
  have e : takeL [p, q, c ++ [z]] z = [p, q, c] := by unfold takeL; simp only [List.map_cons, List.map_nil]; rw [filt_snoc_no h.2.2, filt_no h.1, filt_no h.2.1]
  unfold frontL; rw [e]; rfl
/-- What a step does. -/
inductive Move : Sg → Sg → Prop
  | hot {p q c z a} : 20 * ((p ++ [z]).length + q.length + c.length) / 100 < (p ++ [z]).length → Move ⟨[p ++ [z], q, c], a⟩ ⟨if a z then [p, z :: q, c] else [p, q, z :: c], updB a z false⟩
  | warm {p q c z a} : p.length ≤ 20 * (p.length + (q ++ [z]).length + c.length) / 100 → 40 * (p.length + (q ++ [z]).length + c.length) / 100 < (q ++ [z]).length → Move ⟨[p, q ++ [z], c], a⟩ ⟨if a z then [p, z :: q, c] else [p, q, z :: c], updB a z false⟩
  | cold {p q c z a} : p.length ≤ 20 * (p.length + q.length + (c ++ [z]).length) / 100 → q.length ≤ 40 * (p.length + q.length + (c ++ [z]).length) / 100 → a z = true → Move ⟨[p, q, c ++ [z]], a⟩ ⟨[p, z :: q, c], updB a z false⟩
theorem out3 {p q c : List Int} (z : Int) (hn : (p ++ [z] ++ (q ++ c)).Nodup) : z ∉ p ∧ z ∉ q ∧ z ∉ c := by
  rw [List.append_assoc, List.nodup_append, List.singleton_append, List.nodup_cons, List.mem_append] at hn
  obtain ⟨_, ⟨h2, _⟩, h3⟩ := hn
  exact ⟨fun h => h3 z h z (List.mem_cons_self ..) rfl, fun h => h2 (.inl h), fun h => h2 (.inr h)⟩
theorem perm4 (p q z c : List Int) : (p ++ (q ++ (z ++ c))).Perm (q ++ (z ++ (p ++ c))) := by
  have h1 : (p ++ (q ++ (z ++ c))).Perm ((q ++ z) ++ (p ++ c)) := by rw [← List.append_assoc q z c]; exact List.perm_append_comm_assoc ..
  rw [List.append_assoc] at h1; exact h1
theorem stp_yes {s : Sg} (h : s.Ok) (hb : s.stpB = true) : Move s s.stp := by
  obtain ⟨p, q, c, e⟩ := h.rows
  obtain ⟨L, a⟩ := s
  obtain rfl : L = [p, q, c] := e
  have hg := h.good.nd
  have hr := h.good.rng
  simp only [flat3] at hg hr
  have hp : 0 ≤ Sg.pick ⟨[p, q, c], a⟩ := of_decide_eq_true hb
  unfold Sg.stp
  rw [if_pos hp]
  have hpk : Sg.pick ⟨[p, q, c], a⟩ = if 20 * (p.length + q.length + c.length) / 100 < p.length then lastOf p else if 40 * (p.length + q.length + c.length) / 100 < q.length then lastOf q else if a (lastOf c) then lastOf c else -1 := rfl
  rw [hpk] at hp ⊢
  by_cases k0 : 20 * (p.length + q.length + c.length) / 100 < p.length
  · rw [if_pos k0] at hp ⊢
    rcases snoc_or p with rfl | ⟨p', z, rfl⟩
    · simp at k0
    · rw [last_some] at hp ⊢
      have ho := out3 z hg
      have hz := hr z (by simp)
      have hm : ∀ r, 0 ≤ r → r < 3 → May [p' ++ [z], q, c].length r z := fun r r0 r3 => ⟨r0, by simpa using r3, hz⟩
      have := Move.hot (a := a) k0
      cases e : a z
      · simp only [e, Bool.false_eq_true, if_false] at this ⊢
        rw [opFront_yes (hm 2 (by decide) (by decide))]
        rw [show (2 : Int).toNat = 2 from rfl, (front_from0 ho).2]; exact this
      · simp only [e, if_true] at this ⊢
        rw [opFront_yes (hm 1 (by decide) (by decide))]
        rw [show (1 : Int).toNat = 1 from rfl, (front_from0 ho).1]; exact this
  · rw [if_neg k0] at hp ⊢
    by_cases k1 : 40 * (p.length + q.length + c.length) / 100 < q.length
    · rw [if_pos k1] at hp ⊢
      rcases snoc_or q with rfl | ⟨q', z, rfl⟩
      · simp at k1
      · rw [last_some] at hp ⊢
        have ho : z ∉ p ∧ z ∉ q' ∧ z ∉ c := by
          have := out3 (p := q') (q := p) (c := c) z ((List.Perm.nodup_iff (by simp only [List.append_assoc]; exact perm4 p q' [z] c)).1 hg)
          exact ⟨this.2.1, this.1, this.2.2⟩
        have hz := hr z (by simp)
        have hm : ∀ r, 0 ≤ r → r < 3 → May [p, q' ++ [z], c].length r z := fun r r0 r3 => ⟨r0, by simpa using r3, hz⟩
        have := Move.warm (a := a) (Nat.le_of_not_lt k0) k1
        cases e : a z
        · simp only [e, Bool.false_eq_true, if_false] at this ⊢
          rw [opFront_yes (hm 2 (by decide) (by decide))]
          rw [show (2 : Int).toNat = 2 from rfl, (front_from1 ho).2]; exact this
        · simp only [e, if_true] at this ⊢
          rw [opFront_yes (hm 1 (by decide) (by decide))]
          rw [show (1 : Int).toNat = 1 from rfl, (front_from1 ho).1]; exact this
    · rw [if_neg k1] at hp ⊢
      by_cases k2 : a (lastOf c) = true
      · rw [if_pos k2] at hp ⊢
        rcases snoc_or c with rfl | ⟨c', z, rfl⟩
        · rw [last_none] at hp; omega
        · rw [last_some] at hp k2 ⊢
          have ho : z ∉ p ∧ z ∉ q ∧ z ∉ c' := by
            have := out3 (p := c') (q := p) (c := q) z ((List.Perm.nodup_iff (by rw [← List.append_assoc]; exact List.perm_append_comm)).1 hg)
            exact ⟨this.2.1, this.2.2, this.1⟩
          have hz := hr z (by simp)
          have hm : ∀ r, 0 ≤ r → r < 3 → May [p, q, c' ++ [z]].length r z := fun r r0 r3 => ⟨r0, by simpa using r3, hz⟩
          simp only [k2, if_true]
          rw [opFront_yes (hm 1 (by decide) (by decide))]
          rw [show (1 : Int).toNat = 1 from rfl, front_from2 ho]
          exact Move.cold (Nat.le_of_not_lt k0) (Nat.le_of_not_lt k1) k2
      · rw [if_neg k2] at hp; omega
theorem stp_no {s : Sg} (h : s.Ok) (hb : s.stpB = false) : s.stp = s ∧ (rowAt s.L 0).length ≤ 20 * s.n / 100 ∧ (rowAt s.L 1).length ≤ 40 * s.n / 100 ∧ s.a (lastOf (rowAt s.L 2)) = false := by
  have hp : ¬ 0 ≤ s.pick := of_decide_eq_false hb
  refine ⟨if_neg hp, ?_⟩
  have hl : ∀ i : Nat, i < 3 → 0 < (rowAt s.L i).length → 0 ≤ lastOf (rowAt s.L i) := fun i hi hn => by
    obtain ⟨p, q, c, e⟩ := h.rows
    have hr := h.good.rng
    rcases snoc_or (rowAt s.L i) with h0 | ⟨l, z, h0⟩
    · rw [h0] at hn; simp at hn
    · rw [h0, last_some]
      refine (hr z ?_).1
      have hz : z ∈ rowAt s.L i := by rw [h0]; simp
      rw [e] at hz ⊢
      rw [flat3]
      match i, hi with
      | 0, _ => exact List.mem_append.2 (.inl hz)
      | 1, _ => exact List.mem_append.2 (.inr (List.mem_append.2 (.inl hz)))
      | 2, _ => exact List.mem_append.2 (.inr (List.mem_append.2 (.inr hz)))
  unfold Sg.pick at hp
  by_cases k0 : 20 * s.n / 100 < (rowAt s.L 0).length
  · rw [if_pos k0] at hp
    exact absurd (hl 0 (by decide) (by simp only [Int.ofNat_zero]; omega)) hp
  · rw [if_neg k0] at hp
    by_cases k1 : 40 * s.n / 100 < (rowAt s.L 1).length
    · rw [if_pos k1] at hp
      exact absurd (hl 1 (by decide) (by show 0 < (rowAt s.L 1).length; omega)) hp
    · rw [if_neg k1] at hp
      refine ⟨Nat.le_of_not_lt k0, Nat.le_of_not_lt k1, ?_⟩
      cases e : s.a (lastOf (rowAt s.L 2))
      · rfl
      · rw [if_pos e] at hp
        have hm := h.act _ e
        exact absurd (h.good.rng _ hm).1 hp
end Go.Proofs.YtenncmjokdacoaaDoor.Sr
