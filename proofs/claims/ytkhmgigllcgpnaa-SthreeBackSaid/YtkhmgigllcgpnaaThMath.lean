/-
  Plain mathematics of three queues: two rows of ids with numbers and counts, a ghost; what the calls make of them; that looking for the victim ends. No program in it. No conditions.
-/
import Derived.Test.YtkhmgigllcgpnaaM7
namespace Go.Proofs.Ytkhmgigllcgpnaa.Th
open Go

structure Th where
  L : List (List Int)
  g : List Int
  m : Nat
  num : Int → Int
  cnt : Int → Nat
def updN {α : Type} (f : Int → α) (z : Int) (h : α) : Int → α := fun y => if y = z then h else f y
theorem updN_same {α : Type} (f : Int → α) (z : Int) (h : α) : updN f z h z = h := if_pos rfl
theorem updN_other {α : Type} {f : Int → α} {y z : Int} (e : y ≠ z) (h : α) : updN f z h y = f y := if_neg e
def new : Th := ⟨[[], []], [], 0, fun _ => 0, fun _ => 0⟩
def Th.has (s : Th) (z : Int) : Bool := (rowOf s.L z).isSome
def Th.cap (s : Th) (n : Int) : Th := ⟨s.L, Gh.cutL n.toNat s.g, n.toNat, s.num, s.cnt⟩
def okId (z : Int) : Bool := decide (0 ≤ z ∧ z ≤ 4194303)
def Th.insB (s : Th) (z : Int) : Bool := !s.has z && okId z
def Th.ins (s : Th) (z h : Int) : Th :=
  if s.insB z then ⟨opFront s.L (if h ∈ s.g then 1 else 0) z, Gh.rmL s.g h, s.m, updN s.num z h, updN s.cnt z 0⟩ else s
def Th.tch (s : Th) (z : Int) : Th := if s.has z then { s with cnt := updN s.cnt z (min 3 (s.cnt z + 1)) } else s
def Th.rem (s : Th) (z : Int) : Th := if s.has z then { s with L := takeL s.L z, num := updN s.num z 0, cnt := updN s.cnt z 0 } else s
def Th.out (s : Th) (z : Int) : Th := if rowOf s.L z = some 0 then { s with g := Gh.addL s.m s.g (s.num z) } else s
def Th.evict (s : Th) (z : Int) : Th := (s.out z).rem z
def Th.count (s : Th) (z : Int) : Int := if s.has z then s.cnt z else -1
/-- Is it looked for in small? -/
def Th.sm (s : Th) : Bool := decide (0 < (rowAt s.L 0).length) && (decide (max 1 (s.m / 10) < (rowAt s.L 0).length) || decide ((rowAt s.L 1).length = 0))
/-- Who is looked at; -1: nobody. -/
def Th.at_ (s : Th) : Int := if s.sm then lastOf (rowAt s.L 0) else lastOf (rowAt s.L 1)
/-- Is that the one? -/
def Th.end_ (s : Th) : Bool := decide (s.at_ < 0) || decide (s.cnt s.at_ < if s.sm then 2 else 1)
/-- A look that goes on. -/
def Th.look (s : Th) : Th := { s with L := opFront s.L 1 s.at_, cnt := updN s.cnt s.at_ (if s.sm then 0 else s.cnt s.at_ - 1) }
def Th.vicF : Nat → Th → Int × Th
  | 0, s => (-1, s)
  | k + 1, s => if s.end_ then (s.at_, s) else vicF k s.look
structure Th.Ok (s : Th) : Prop where
  good : GoodL s.L
  two : s.L.length = 2
  mb : (s.m : Int) ≤ 9223372036854775807
  zero : ∀ z, z ∉ s.L.flatten → s.num z = 0 ∧ s.cnt z = 0
  three : ∀ z, s.cnt z ≤ 3
theorem new_ok : new.Ok := ⟨⟨by decide, by decide, by decide, by intro z hz; simp [new] at hz⟩, rfl, by decide, fun _ _ => ⟨rfl, rfl⟩, fun _ => Nat.zero_le _⟩
theorem arow_some {L : List (List Int)} {z : Int} : (rowOf L z).isSome = true ↔ z ∈ L.flatten := by
  constructor
  · intro h
    apply Decidable.byContradiction
    intro hn
    rw [rowOf_none'.2 hn] at h; cases h
  · intro h
    cases e : rowOf L z with
    | none => exact absurd h (rowOf_none'.1 e)
    | some i => rfl
theorem opF_good {L : List (List Int)} (h : GoodL L) (r z : Int) : GoodL (opFront L r z) := by
  by_cases hm : May L.length r z
  · rw [opFront_yes hm]
    unfold May at hm
    exact h.front (by omega) (by omega) (by omega)
  · rw [opFront_no hm]; exact h
theorem mem_frontL {L : List (List Int)} {i : Nat} (hi : i < L.length) {z y : Int} : y ∈ (frontL L i z).flatten ↔ y = z ∨ y ∈ L.flatten := by
  have hi' : (takeL L z)[i]? = some ([] ++ (takeL L z)[i]?.getD []) := by
    rw [List.getElem?_eq_getElem (by rw [takeL_len]; exact hi)]; rfl
  have p := flat_ins z hi'
  unfold frontL
  rw [show (takeL L z)[i]?.getD [] = [] ++ (takeL L z)[i]?.getD [] from rfl]
  rw [show z :: ([] ++ (takeL L z)[i]?.getD []) = [] ++ z :: (takeL L z)[i]?.getD [] from rfl]
  rw [p.mem_iff, List.mem_cons, mem_take]
  by_cases e : y = z
  · simp [e]
  · simp [e]
theorem opF_mem {L : List (List Int)} {r z y : Int} (hm : May L.length r z) : y ∈ (opFront L r z).flatten ↔ y = z ∨ y ∈ L.flatten := by
  rw [opFront_yes hm]
  unfold May at hm
  exact mem_frontL (by omega)
theorem opF_sup {L : List (List Int)} {r z y : Int} (h : y ∉ (opFront L r z).flatten) : y ∉ L.flatten := by
  by_cases hm : May L.length r z
  · rw [opF_mem hm] at h; exact fun e => h (.inr e)
  · rwa [opFront_no hm] at h
theorem may2 {L : List (List Int)} (h : L.length = 2) {r z : Int} (h0 : 0 ≤ r) (h1 : r < 2) (hz : okId z = true) : May L.length r z := by
  have := of_decide_eq_true hz
  unfold May; rw [h]; exact ⟨h0, h1, this⟩
theorem Th.Ok.cap {s : Th} (h : s.Ok) {n : Int} (hn : n ≤ 9223372036854775807) : (s.cap n).Ok := ⟨h.good, h.two, by show ((n.toNat : Nat) : Int) ≤ _; omega, h.zero, h.three⟩
theorem Th.Ok.ins {s : Th} (h : s.Ok) (z x : Int) : (s.ins z x).Ok := by
  unfold Th.ins
  split
  · rename_i hb
    have hz : okId z = true := by unfold Th.insB at hb; exact (Bool.and_eq_true _ _ ▸ hb).2
    have hm : May s.L.length (if x ∈ s.g then 1 else 0) z := by split <;> exact may2 h.two (by decide) (by decide) hz
    refine ⟨opF_good h.good _ _, by show (opFront _ _ _).length = 2; rw [opFront_len]; exact h.two, h.mb, fun y hy => ?_, fun y => ?_⟩
    · replace hy : y ∉ (opFront s.L (if x ∈ s.g then 1 else 0) z).flatten := hy
      rw [opF_mem hm] at hy
      have hne : y ≠ z := fun e => hy (.inl e)
      show updN s.num z x y = 0 ∧ updN s.cnt z 0 y = 0
      rw [updN_other hne, updN_other hne]
      exact h.zero y (fun e => hy (.inr e))
    · show updN s.cnt z 0 y ≤ 3
      by_cases e : y = z
      · rw [e, updN_same]; exact Nat.zero_le _
      · rw [updN_other e]; exact h.three y
  · exact h
theorem Th.Ok.tch {s : Th} (h : s.Ok) (z : Int) : (s.tch z).Ok := by
  unfold Th.tch
  split
  · rename_i hz
    refine ⟨h.good, h.two, h.mb, fun y hy => ⟨(h.zero y hy).1, ?_⟩, fun y => ?_⟩
    · show updN s.cnt z _ y = 0
      rw [updN_other (fun e => hy (by rw [e]; exact arow_some.1 hz))]
      exact (h.zero y hy).2
    · show updN s.cnt z _ y ≤ 3
      by_cases e : y = z
      · rw [e, updN_same]; omega
      · rw [updN_other e]; exact h.three y
  · exact h
theorem Th.Ok.rem {s : Th} (h : s.Ok) (z : Int) : (s.rem z).Ok := by
  unfold Th.rem
  split
  · refine ⟨h.good.take z, by show (takeL _ _).length = 2; rw [takeL_len]; exact h.two, h.mb, fun y hy => ?_, fun y => ?_⟩
    · show updN s.num z 0 y = 0 ∧ updN s.cnt z 0 y = 0
      by_cases e : y = z
      · rw [e, updN_same, updN_same]; exact ⟨rfl, rfl⟩
      · rw [updN_other e, updN_other e]
        exact h.zero y (fun hm => hy (mem_take.2 ⟨hm, e⟩))
    · show updN s.cnt z 0 y ≤ 3
      by_cases e : y = z
      · rw [e, updN_same]; exact Nat.zero_le _
      · rw [updN_other e]; exact h.three y
  · exact h
theorem Th.Ok.out {s : Th} (h : s.Ok) (z : Int) : (s.out z).Ok := by
  unfold Th.out
  split
  · exact ⟨h.good, h.two, h.mb, h.zero, h.three⟩
  · exact h
theorem Th.Ok.evict {s : Th} (h : s.Ok) (z : Int) : (s.evict z).Ok := (h.out z).rem z

/-! Looking -/
theorem rows2 {L : List (List Int)} (h : L.length = 2) : ∃ p q, L = [p, q] := by
  match L, h with
  | [p, q], _ => exact ⟨p, q, rfl⟩
theorem last_mem {l : List Int} (h : 0 ≤ lastOf l) : lastOf l ∈ l := by
  unfold lastOf at h ⊢
  cases e : l.getLast? with
  | none => rw [e] at h; exact absurd h (by decide)
  | some x => exact List.mem_of_getLast? e
theorem at_in {s : Th} (h : s.Ok) (h0 : 0 ≤ s.at_) : s.at_ ∈ s.L.flatten := by
  obtain ⟨p, q, e⟩ := rows2 h.two
  unfold Th.at_ at h0 ⊢
  rw [e] at h0 ⊢
  cases hs : s.sm
  · rw [hs] at h0
    have := last_mem (l := q) h0
    simp only [List.flatten_cons, List.mem_append]
    exact .inr (.inl this)
  · rw [hs] at h0
    have := last_mem (l := p) h0
    simp only [List.flatten_cons, List.mem_append]
    exact .inl this
theorem end_no {s : Th} (h : s.end_ = false) : 0 ≤ s.at_ ∧ (if s.sm then 2 else 1) ≤ s.cnt s.at_ := by
  unfold Th.end_ at h
  rw [Bool.or_eq_false_iff] at h
  have h1 := of_decide_eq_false h.1
  have h2 := of_decide_eq_false h.2
  exact ⟨by omega, Nat.le_of_not_lt h2⟩
theorem at_may {s : Th} (h : s.Ok) (h0 : 0 ≤ s.at_) : May s.L.length 1 s.at_ := may2 h.two (by decide) (by decide) (decide_eq_true (h.good.rng _ (at_in h h0)))
theorem look_mem {s : Th} (h : s.Ok) (h0 : 0 ≤ s.at_) {y : Int} : y ∈ s.look.L.flatten ↔ y ∈ s.L.flatten := by
  show y ∈ (opFront s.L 1 s.at_).flatten ↔ _
  rw [opF_mem (at_may h h0)]
  exact ⟨fun e => e.elim (fun e2 => e2 ▸ at_in h h0) id, .inr⟩
theorem Th.Ok.look {s : Th} (h : s.Ok) (he : s.end_ = false) : s.look.Ok := by
  have h0 := (end_no he).1
  refine ⟨opF_good h.good _ _, by show (opFront _ _ _).length = 2; rw [opFront_len]; exact h.two, h.mb, fun y hy => ?_, fun y => ?_⟩
  · rw [look_mem h h0] at hy
    refine ⟨(h.zero y hy).1, ?_⟩
    show updN s.cnt s.at_ _ y = 0
    rw [updN_other (fun e => hy (by rw [e]; exact at_in h h0))]
    exact (h.zero y hy).2
  · show updN s.cnt s.at_ _ y ≤ 3
    by_cases e : y = s.at_
    · rw [e, updN_same]
      have := h.three s.at_
      split <;> omega
    · rw [updN_other e]; exact h.three y
/-- How many looks there may be. -/
def wt (c : Int → Nat) (l : List Int) : Nat := (l.map c).sum
theorem wt_app (c : Int → Nat) (l m : List Int) : wt c (l ++ m) = wt c l + wt c m := by unfold wt; rw [List.map_append, List.sum_append]
theorem wt_cons (c : Int → Nat) (z : Int) (l : List Int) : wt c (z :: l) = c z + wt c l := by unfold wt; simp
theorem wt_upd {c : Int → Nat} {z : Int} {n : Nat} {l : List Int} (h : z ∉ l) : wt (updN c z n) l = wt c l := by
  unfold wt
  congr 1
  refine List.map_congr_left (fun y hy => ?_)
  exact updN_other (f := c) (y := y) (z := z) (fun e => h (by rw [← e]; exact hy)) n
theorem wt_le {c : Int → Nat} (h : ∀ z, c z ≤ 3) : ∀ l, wt c l ≤ 3 * l.length
  | [] => by simp [wt]
  | z :: l => by
    have := wt_le h l
    have := h z
    rw [wt_cons, List.length_cons]
    omega
def Th.pot (s : Th) : Nat := wt s.cnt s.L.flatten + (rowAt s.L 0).length
theorem snoc_of {l : List Int} (h : 0 ≤ lastOf l) : ∃ l', l = l' ++ [lastOf l] := by
  rcases List.eq_nil_or_concat l with e | ⟨l', z, e⟩
  · rw [e] at h; exact absurd h (by decide)
  · refine ⟨l', ?_⟩
    have : lastOf l = z := by rw [e]; unfold lastOf; simp
    rw [this, e]; simp
theorem filt_no {l : List Int} {z : Int} (h : z ∉ l) : l.filter (fun y => decide (y ≠ z)) = l :=
  List.filter_eq_self.2 (fun y hy => by simp only [decide_eq_true_eq]; rintro rfl; exact h hy)
theorem filt_snoc_no {l : List Int} {z : Int} (h : z ∉ l) : (l ++ [z]).filter (fun y => decide (y ≠ z)) = l := by
  rw [List.filter_append, filt_no h]; simp
theorem front_small {p q : List Int} {z : Int} (h1 : z ∉ p) (h2 : z ∉ q) : frontL [p ++ [z], q] 1 z = [p, z :: q] := by
  have e : takeL [p ++ [z], q] z = [p, q] := by unfold takeL; simp only [List.map_cons, List.map_nil]; rw [filt_snoc_no h1, filt_no h2]
  unfold frontL; rw [e]; rfl
theorem front_main {p q : List Int} {z : Int} (h1 : z ∉ p) (h2 : z ∉ q) : frontL [p, q ++ [z]] 1 z = [p, z :: q] := by
  have e : takeL [p, q ++ [z]] z = [p, q] := by unfold takeL; simp only [List.map_cons, List.map_nil]; rw [filt_snoc_no h2, filt_no h1]
  unfold frontL; rw [e]; rfl
/-- What a look that goes on does to the rows. -/
theorem look_rows {s : Th} (h : s.Ok) (he : s.end_ = false) : ∃ p q z, s.at_ = z ∧ z ∉ p ∧ z ∉ q ∧ s.look.L = [p, z :: q] ∧ ((s.sm = true ∧ s.L = [p ++ [z], q] ∧ 2 ≤ s.cnt z ∧ s.look.cnt = updN s.cnt z 0) ∨ (s.sm = false ∧ s.L = [p, q ++ [z]] ∧ 1 ≤ s.cnt z ∧ s.look.cnt = updN s.cnt z (s.cnt z - 1))) := by
  obtain ⟨h0, h1⟩ := end_no he
  have hM := at_may h h0
  obtain ⟨p, q, e⟩ := rows2 h.two
  have hnd := h.good.nd
  have hl : s.look.L = opFront s.L 1 s.at_ := rfl
  have hc : s.look.cnt = updN s.cnt s.at_ (if s.sm then 0 else s.cnt s.at_ - 1) := rfl
  have hat : s.at_ = if s.sm then lastOf (rowAt s.L 0) else lastOf (rowAt s.L 1) := rfl
  rw [opFront_yes hM] at hl
  rw [e] at hl hat hnd
  cases hs : s.sm
  · rw [hs] at hc h1 hat
    replace hat : s.at_ = lastOf q := hat
    rw [hat] at h0
    obtain ⟨q', hq⟩ := snoc_of h0
    rw [← hat] at hq
    generalize s.at_ = z at *
    subst hq
    rw [List.flatten_cons, List.flatten_cons, List.flatten_nil, List.append_nil, List.nodup_append, List.nodup_append] at hnd
    obtain ⟨_, ⟨_, _, n2⟩, n3⟩ := hnd
    have z1 : z ∉ p := fun hm => n3 z hm z (by simp) rfl
    have z2 : z ∉ q' := fun hm => n2 z hm z (by simp) rfl
    exact ⟨p, q', z, rfl, z1, z2, by rw [hl]; exact front_main z1 z2, .inr ⟨rfl, e, by simpa using h1, by rw [hc]; rfl⟩⟩
  · rw [hs] at hc h1 hat
    replace hat : s.at_ = lastOf p := hat
    rw [hat] at h0
    obtain ⟨p', hp⟩ := snoc_of h0
    rw [← hat] at hp
    generalize s.at_ = z at *
    subst hp
    rw [List.flatten_cons, List.flatten_cons, List.flatten_nil, List.append_nil, List.nodup_append, List.nodup_append] at hnd
    obtain ⟨⟨_, _, n2⟩, _, n3⟩ := hnd
    have z1 : z ∉ p' := fun hm => n2 z hm z (by simp) rfl
    have z2 : z ∉ q := fun hm => n3 z (by simp) z hm rfl
    exact ⟨p', q, z, rfl, z1, z2, by rw [hl]; exact front_small z1 z2, .inl ⟨rfl, e, by simpa using h1, by rw [hc]; rfl⟩⟩
theorem look_pot {s : Th} (h : s.Ok) (he : s.end_ = false) : s.look.pot + 1 ≤ s.pot := by
  obtain ⟨p, q, z, _, z1, z2, hl, hc⟩ := look_rows h he
  unfold Th.pot
  rw [hl]
  have f2 : ∀ a b : List Int, [a, b].flatten = a ++ b := fun a b => by simp
  rcases hc with ⟨_, e, h2, c⟩ | ⟨_, e, h2, c⟩
  · rw [e, c, f2, f2, wt_app, wt_cons, wt_app, wt_app, wt_cons, wt_upd z1, wt_upd z2, updN_same]
    show wt s.cnt p + (0 + wt s.cnt q) + p.length + 1 ≤ wt s.cnt p + (s.cnt z + wt s.cnt []) + wt s.cnt q + (p ++ [z]).length
    rw [List.length_append, List.length_singleton]
    omega
  · rw [e, c, f2, f2, wt_app, wt_cons, wt_app, wt_app, wt_cons, wt_upd z1, wt_upd z2, updN_same]
    show wt s.cnt p + (s.cnt z - 1 + wt s.cnt q) + p.length + 1 ≤ wt s.cnt p + (wt s.cnt q + (s.cnt z + wt s.cnt [])) + p.length
    omega
theorem pot_le {s : Th} (h : s.Ok) : s.pot ≤ 4 * s.L.flatten.length := by
  have h1 := wt_le h.three s.L.flatten
  obtain ⟨p, q, e⟩ := rows2 h.two
  unfold Th.pot
  have h2 : (rowAt s.L 0).length ≤ s.L.flatten.length := by rw [e]; show p.length ≤ _; simp
  omega
/-- Enough looks find one. -/
theorem vicF_more : ∀ (k : Nat) {s : Th}, s.Ok → s.pot < k → ∀ j, k ≤ j → s.vicF j = s.vicF k
  | 0, _, _, h, _, _ => absurd h (Nat.not_lt_zero _)
  | k + 1, s, ok, h, j, hj => by
    obtain ⟨j, rfl⟩ : ∃ i, j = i + 1 := ⟨j - 1, by omega⟩
    unfold Th.vicF
    cases he : s.end_
    · have := look_pot ok he
      simp only [Bool.false_eq_true, if_false]
      exact vicF_more k (ok.look he) (by omega) j (by omega)
    · rfl
def Th.vic (s : Th) : Int × Th := s.vicF (s.pot + 1)
theorem vic_end {s : Th} (h : s.end_ = true) : s.vic = (s.at_, s) := by unfold Th.vic Th.vicF; rw [h]; rfl
theorem vic_look {s : Th} (ok : s.Ok) (h : s.end_ = false) : s.vic = s.look.vic := by
  have h1 : s.vic = s.look.vicF s.pot := by unfold Th.vic; rw [Th.vicF]; rw [h]; rfl
  have := look_pot ok h
  rw [h1]
  exact vicF_more (s.look.pot + 1) (ok.look h) (by omega) s.pot this
theorem vic_ok : ∀ (k : Nat) {s : Th}, s.Ok → s.pot < k → s.vic.2.Ok
  | 0, _, _, h => absurd h (Nat.not_lt_zero _)
  | k + 1, s, ok, h => by
    cases he : s.end_
    · have := look_pot ok he
      rw [vic_look ok he]
      exact vic_ok k (ok.look he) (by omega)
    · rw [vic_end he]; exact ok
theorem Th.Ok.vic {s : Th} (h : s.Ok) : s.vic.2.Ok := vic_ok _ h (Nat.lt_succ_self _)
end Go.Proofs.Ytkhmgigllcgpnaa.Th
