/-
  Who is asked for again and again outlives who comes once: plain mathematics of a segmented row. No program in it. No conditions.
-/
import Derived.Test.YtenncmjokdacoaaDoorSegHas
namespace Go.Proofs.YtenncmjokdacoaaDoor.Sr
open Go

theorem ins_no {s : Sg} {z : Int} (h : s.Ok) (hz : z ∉ s.L.flatten) (hr : 0 ≤ z ∧ z ≤ 4194303) : s.insB z = true ∧ ∃ p q c, s.L = [p, q, c] ∧ s.ins z = ⟨[z :: p, q, c], s.a⟩ := by
  have hh : s.has z = false := has_no.2 hz
  have hm : May s.L.length 0 z := (may3 h).2 ⟨by decide, by decide, hr⟩
  obtain ⟨p, q, c, e⟩ := h.rows
  refine ⟨by unfold Sg.insB; rw [hh, decide_eq_true hm]; rfl, p, q, c, e, ?_⟩
  rw [e, flat3] at hz
  simp only [List.mem_append, not_or] at hz
  have h1 : s.ins z = ⟨opFront s.L 0 z, s.a⟩ := by unfold Sg.ins; rw [hh]; rfl
  rw [h1, opFront_yes hm, e]
  unfold frontL takeL
  simp only [List.map_cons, List.map_nil]
  rw [filt_no hz.1, filt_no hz.2.1, filt_no hz.2.2]; rfl
/-- Ahead of a round: id stands in hot, or alone in warm; nobody else is active; ten stand, all below B. -/
structure Paw (id B : Int) (s : Sg) : Prop where
  ok : s.Ok
  act : ∀ z, s.a z = true → z = id
  at_ : (id ∈ rowAt s.L 0 ∧ rowAt s.L 1 = []) ∨ rowAt s.L 1 = [id]
  n : s.n = 10
  lt : ∀ z ∈ s.L.flatten, z < B
theorem Paw.mem {id B : Int} {s : Sg} (h : Paw id B s) : id ∈ s.L.flatten := by
  rcases h.at_ with ⟨h1, _⟩ | h1
  · exact row_mem h1
  · exact row_mem (r := 1) (by rw [h1]; simp)
theorem n3 (p q c : List Int) (a : Int → Bool) : Sg.n ⟨[p, q, c], a⟩ = p.length + q.length + c.length := rfl
/-- Touched, and another one come. -/
theorem Paw.come {id B : Int} {s : Sg} (h : Paw id B s) (hB : 0 ≤ B ∧ B ≤ 4194303) : Pas id ((s.tch id).ins B) ∧ ((s.tch id).ins B).n = 11 ∧ ∀ z ∈ ((s.tch id).ins B).L.flatten, z < B + 1 := by
  have hh : s.has id = true := has_iff.2 h.mem
  have ht : s.tch id = ⟨s.L, updB s.a id true⟩ := by unfold Sg.tch; rw [hh]; rfl
  have okt := h.ok.tch id
  have oki := okt.ins B
  have hno : B ∉ (s.tch id).L.flatten := fun hm => by rw [tch_L] at hm; exact absurd (h.lt B hm) (Int.lt_irrefl _)
  obtain ⟨_, p, q, c, e1, e2⟩ := ins_no okt hno hB
  have hm := fun y => ins_mem (y := y) okt hB
  have at_ := h.at_
  have hn := h.n
  have eL : s.L = [p, q, c] := by rw [tch_L] at e1; exact e1
  have hn' : p.length + q.length + c.length = 10 := by rw [← n3 p q c s.a, ← eL]; exact hn
  rw [eL] at at_
  have hact : ∀ z, updB s.a id true z = true → z = id := fun z hz => by
    by_cases e : z = id
    · exact e
    · rw [updB_other e] at hz; exact h.act z hz
  have hlt : ∀ z ∈ ((s.tch id).ins B).L.flatten, z < B + 1 := fun z hz => by
    rcases (hm z).1 hz with rfl | hz
    · omega
    · rw [tch_L] at hz; have := h.lt z hz; omega
  rw [e2] at oki hlt ⊢
  rw [ht] at oki hlt ⊢
  refine ⟨⟨oki, hact, ?_⟩, by rw [n3, List.length_cons]; omega, hlt⟩
  rcases at_ with ⟨h1, h2⟩ | h1
  · left
    refine ⟨?_, h2, updB_same _ _ _⟩
    show id ∈ B :: p
    exact List.mem_cons_of_mem _ h1
  · right; exact h1
/-- k steps behind: hot has at most 2, or k stand in warm and cold. -/
structure Pak (id B : Int) (k : Nat) (s : Sg) : Prop where
  pas : Pas id s
  n : s.n = 11
  lt : ∀ z ∈ s.L.flatten, z < B
  far : (rowAt s.L 0).length ≤ 2 ∨ k ≤ (rowAt s.L 1).length + (rowAt s.L 2).length
theorem Pak.stp {id B : Int} {k : Nat} {s : Sg} (h : Pak id B k s) : Pak id B (k + 1) s.stp := by
  obtain ⟨k1, k2⟩ := h.pas.stp (by rw [h.n]; decide)
  have hp := stp_perm h.pas.ok
  refine ⟨k1, (stp_n h.pas.ok).trans h.n, fun z hz => h.lt z (hp.mem_iff.2 hz), ?_⟩
  have hf := h.far
  have hn := h.n
  rcases k2 with ⟨e, e2⟩ | ⟨e1, e2⟩
  · rw [hn] at e2; left; rw [e]; omega
  · rcases hf with hf | hf
    · left; omega
    · right; omega
theorem Pak.start {id B : Int} {s : Sg} (h : Paw id B s) (hB : 0 ≤ B ∧ B ≤ 4194303) : Pak id (B + 1) 0 ((s.tch id).ins B) :=
  ⟨(h.come hB).1, (h.come hB).2.1, (h.come hB).2.2, .inr (Nat.zero_le _)⟩
/-- The victim is another one; when it is gone all is as it was. -/
theorem Pak.go {id B : Int} {s : Sg} (h : Pak id B 4 s) : 0 ≤ s.vic ∧ s.vic ≤ 4194303 ∧ s.vic ≠ id ∧ s.has s.vic = true ∧ Paw id B (s.rem s.vic) := by
  have hnc := h.pas.not_cold
  have hok := h.pas.ok
  have hact := h.pas.act
  have hat : (id ∈ rowAt s.L 0 ∧ rowAt s.L 1 = []) ∨ rowAt s.L 1 = [id] := h.pas.at_.imp (fun ⟨a, b, _⟩ => ⟨a, b⟩) (fun a => a)
  have hfar := h.far
  have hn := h.n
  have hlt := h.lt
  have l2 := last_row hok 2
  have hcold : 0 < (rowAt s.L 2).length := by
    have hw : (rowAt s.L 1).length ≤ 1 := by
      rcases hat with ⟨_, e⟩ | e
      · rw [e]; simp
      · rw [e]; simp
    unfold Sg.n at hn
    omega
  rcases l2 with ⟨e, _⟩ | ⟨_, e1, e2, e3⟩
  · rw [e] at hcold; simp at hcold
  have hv : s.vic = lastOf (rowAt s.L 2) := by unfold Sg.vic; rw [if_pos e1]
  rw [hv]
  rcases snoc_or (rowAt s.L 2) with e0 | ⟨c', z, ec⟩
  · rw [e0] at hcold; simp at hcold
  have hz : lastOf (rowAt s.L 2) = z := by rw [ec, last_some]
  rw [hz] at e1 e2 e3 ⊢
  have hne : z ≠ id := fun e => hnc (by rw [ec, e]; simp)
  have hokr := hok.rem z
  have hnd := hok.good.nd
  obtain ⟨p, q, c, eL⟩ := hok.rows
  rw [eL] at hat ec hnd
  replace ec : c = c' ++ [z] := ec
  subst ec
  rw [flat3] at hnd
  have ho : z ∉ p ∧ z ∉ q ∧ z ∉ c' := by
    have := out3 (p := c') (q := p) (c := q) z ((List.Perm.nodup_iff (by rw [← List.append_assoc]; exact List.perm_append_comm)).1 hnd)
    exact ⟨this.2.1, this.2.2, this.1⟩
  have er : (s.rem z).L = [p, q, c'] := by
    show takeL s.L z = _
    rw [eL]
    unfold takeL
    simp only [List.map_cons, List.map_nil]
    rw [filt_no ho.1, filt_no ho.2.1, filt_snoc_no ho.2.2]
  have en : p.length + q.length + (c' ++ [z]).length = 11 := by rw [← n3 p q _ s.a, ← eL]; exact hn
  refine ⟨e1, e2, hne, has_iff.2 e3, ⟨hokr, fun y hy => hact y (upd_true (z := z) hy), ?_, ?_, fun y hy => ?_⟩⟩
  · rw [er]; exact hat
  · unfold Sg.n
    rw [er]
    show p.length + q.length + c'.length = 10
    simp only [List.length_append, List.length_singleton] at en; omega
  · rw [er, flat3] at hy
    refine hlt y ?_
    rw [eL, flat3]
    simp only [List.mem_append] at hy ⊢
    rcases hy with h1 | h1 | h1
    · exact .inl h1
    · exact .inr (.inl h1)
    · exact .inr (.inr (.inl h1))
/-! The ten that come first -/
def ten (id : Int) : Nat → Sg
  | 0 => Sg.new
  | k + 1 => (ten id k).ins (id + 1 + k)
structure Tn (id : Int) (k : Nat) (s : Sg) : Prop where
  ok : s.Ok
  idle : ∀ z, s.a z = false
  rows : ∃ p, s.L = [p, [], []] ∧ p.length = k ∧ ∀ z ∈ p, id < z ∧ z ≤ id + k
theorem Tn.new (id : Int) : Tn id 0 Sg.new := ⟨Sg.new_ok, fun _ => rfl, [], rfl, rfl, fun z hz => by cases hz⟩
theorem Tn.ins {id : Int} {k : Nat} {s : Sg} (h : Tn id k s) (hi : 0 ≤ id ∧ id ≤ 65535) (hk : k < 9) : Tn id (k + 1) (s.ins (id + 1 + k)) := by
  obtain ⟨p, e, hl, hm⟩ := h.rows
  have hno : id + 1 + k ∉ s.L.flatten := fun hz => by
    rw [e, flat3] at hz
    have := hm _ (by simpa using hz)
    omega
  obtain ⟨_, p', q', c', e1, e2⟩ := ins_no h.ok hno (by omega)
  have hok := h.ok.ins (id + 1 + k)
  rw [e] at e1
  injection e1 with g1 g2
  injection g2 with g2 g3
  injection g3 with g3 _
  subst g1; subst g2; subst g3
  refine ⟨hok, fun z => ?_, (id + 1 + k) :: p, ?_, by rw [List.length_cons, hl], fun z hz => ?_⟩
  · rw [e2]; exact h.idle z
  · rw [e2]
  · rcases List.mem_cons.1 hz with rfl | hz
    · omega
    · have := hm z hz; omega
theorem Tn.done {id : Int} {s : Sg} (h : Tn id 9 s) (hi : 0 ≤ id ∧ id ≤ 65535) : s.insB id = true ∧ Paw id 200000 (s.ins id) := by
  obtain ⟨p, e, hl, hm⟩ := h.rows
  have hno : id ∉ s.L.flatten := fun hz => by
    rw [e, flat3] at hz
    have := hm _ (by simpa using hz)
    omega
  obtain ⟨e0, p', q', c', e1, e2⟩ := ins_no h.ok hno (by omega)
  have hok := h.ok.ins id
  rw [e] at e1
  injection e1 with g1 g2
  injection g2 with g2 g3
  injection g3 with g3 _
  subst g1; subst g2; subst g3
  refine ⟨e0, hok, fun z hz => ?_, .inl ⟨?_, ?_⟩, ?_, fun z hz => ?_⟩
  · rw [e2] at hz
    have hz' : s.a z = true := hz
    rw [h.idle z] at hz'; cases hz'
  · rw [e2]; show id ∈ id :: p; simp
  · rw [e2]; rfl
  · rw [e2, n3]; simp [hl]
  · rw [e2] at hz
    replace hz : z ∈ [id :: p, [], []].flatten := hz
    rw [flat3] at hz
    simp only [List.append_nil, List.mem_cons] at hz
    rcases hz with rfl | hz
    · omega
    · have := hm z hz; omega
end Go.Proofs.YtenncmjokdacoaaDoor.Sr
