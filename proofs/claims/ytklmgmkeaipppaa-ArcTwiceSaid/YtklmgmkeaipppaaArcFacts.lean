/-
  What adaptive replacement keeps, as plain mathematics: a cache that lets the victim go ahead of one that comes (ArcServes), a scan (ArcScan), touches (ArcTwice). No program in it. No conditions.
-/
import Derived.Test.YtklmgmkeaipppaaArcMath
namespace Go.Proofs.Ytklmgmkeaipppaa.Ac
open Go

theorem arows {L : List (List Int)} (h : L.length = 2) : ∃ p q, L = [p, q] := by
  match L, h with
  | [p, q], _ => exact ⟨p, q, rfl⟩
theorem aflat (p q : List Int) : [p, q].flatten = p ++ q := by simp
def Ar.tot (s : Ar) : Nat := (rowAt s.L 0).length + (rowAt s.L 1).length
theorem Ar.tot_eq {s : Ar} (h : s.Ok) : s.tot = s.L.flatten.length := by
  obtain ⟨p, q, e⟩ := arows h.two
  unfold Ar.tot
  rw [e, aflat, List.length_append]; rfl
theorem alast_mem {l : List Int} (h : l ≠ []) : lastOf l ∈ l := by
  rcases List.eq_nil_or_concat l with e | ⟨l', z, e⟩
  · exact absurd e h
  · have : lastOf l = z := by rw [e]; unfold lastOf; simp
    rw [this, e]; simp
/-- Where somebody stands there is a victim, and it stands. -/
theorem vic_in {s : Ar} (h : s.Ok) (x : Int) (hn : 0 < s.tot) : s.vic x ∈ s.L.flatten := by
  obtain ⟨p, q, e⟩ := arows h.two
  have ht : s.tot = p.length + q.length := by unfold Ar.tot; rw [e]; rfl
  have hv : s.vic x = if s.once x then lastOf p else lastOf q := by unfold Ar.vic; rw [e]; rfl
  have ho : s.once x = (decide (0 < p.length) && (decide (s.p < p.length) || (decide (p.length = s.p) && decide (x ∈ s.b2)) || decide (q.length = 0))) := by unfold Ar.once; rw [e]; rfl
  rw [e, aflat, hv, List.mem_append]
  cases hc : s.once x
  · right
    refine alast_mem (l := q) (fun e2 => ?_)
    rw [ho, e2] at hc
    rw [e2] at ht
    have h0 : 0 < p.length := by simpa [ht] using hn
    simp [h0] at hc
  · left
    refine alast_mem (l := p) (fun e2 => ?_)
    rw [ho, e2] at hc
    simp at hc
theorem rem_mem {s : Ar} {z y : Int} : y ∈ (s.rem z).L.flatten ↔ y ∈ s.L.flatten ∧ y ≠ z := mem_take
theorem ains_mem {s : Ar} (h : s.Ok) {z x y : Int} (hb : s.insB z = true) : y ∈ (s.ins z x).L.flatten ↔ y = z ∨ y ∈ s.L.flatten := by
  have hz : okId z = true := by unfold Ar.insB at hb; exact (Bool.and_eq_true _ _ ▸ hb).2
  unfold Ar.ins
  rw [if_pos hb]
  split
  · exact opF_mem (may2 h.two (by decide) (by decide) hz)
  · split
    · exact opF_mem (may2 h.two (by decide) (by decide) hz)
    · exact opF_mem (may2 h.two (by decide) (by decide) hz)
theorem atch_mem {s : Ar} (h : s.Ok) {z y : Int} : y ∈ (s.tch z).L.flatten ↔ y ∈ s.L.flatten := by
  unfold Ar.tch
  split
  · rename_i hz
    have hm := arow_some.1 hz
    show y ∈ (opFront s.L 1 z).flatten ↔ _
    rw [opF_mem (may2 h.two (by decide) (by decide) (decide_eq_true (h.good.rng z hm)))]
    exact ⟨fun e => e.elim (fun e2 => e2 ▸ hm) id, .inr⟩
  · exact Iff.rfl
theorem perm_len {l m : List Int} (h1 : l.Nodup) (h2 : m.Nodup) (h : ∀ y, y ∈ l ↔ y ∈ m) : l.length = m.length := ((List.perm_ext_iff_of_nodup h1 h2).2 h).length_eq
theorem atch_tot {s : Ar} (h : s.Ok) (z : Int) : (s.tch z).tot = s.tot := by
  rw [Ar.tot_eq h, Ar.tot_eq (h.tch z)]
  exact perm_len (h.tch z).good.nd h.good.nd (fun _ => atch_mem h)
theorem ains_tot {s : Ar} (h : s.Ok) {z : Int} (x : Int) (hb : s.insB z = true) : (s.ins z x).tot = s.tot + 1 := by
  have hzn : z ∉ s.L.flatten := by
    unfold Ar.insB at hb
    have h1 := (Bool.and_eq_true _ _ ▸ hb).1
    intro hm
    rw [show s.has z = true from arow_some.2 hm] at h1
    cases h1
  rw [Ar.tot_eq h, Ar.tot_eq (h.ins z x)]
  have := perm_len (h.ins z x).good.nd (List.nodup_cons.2 ⟨hzn, h.good.nd⟩) (fun y => by rw [ains_mem h hb, List.mem_cons])
  rw [this, List.length_cons]
theorem aevict_L (s : Ar) (z : Int) : (s.evict z).L = takeL s.L z := by
  show takeL (s.out z).L z = _
  rw [(out_L s z).1]
theorem aevict_tot {s : Ar} (h : s.Ok) {z : Int} (hz : z ∈ s.L.flatten) : (s.evict z).tot + 1 = s.tot := by
  have hne : z ∉ (takeL s.L z).flatten := not_take
  rw [Ar.tot_eq h, Ar.tot_eq (h.evict z), aevict_L]
  have := perm_len h.good.nd (List.nodup_cons.2 ⟨hne, (h.good.take z).nd⟩) (fun y => by
    rw [List.mem_cons, mem_take]
    by_cases e : y = z
    · simp [e, hz]
    · simp [e])
  rw [this, List.length_cons]
theorem mem_addL {m : Nat} {l : List Int} {z y : Int} (h : y ∈ Gh.addL m l z) : y = z ∨ y ∈ l := by
  unfold Gh.addL Gh.cutL at h
  have := (List.drop_sublist _ _).mem h
  rcases List.mem_append.1 this with h1 | h1
  · exact .inr (Gh.rm_mem.1 h1).1
  · exact .inl (List.mem_singleton.1 h1)
theorem addL_le (m : Nat) (l : List Int) (z : Int) : (Gh.addL m l z).length ≤ m := Gh.cut_le m _

/-! A cache that serves -/
structure Sv (n : Nat) (s : Ar) : Prop where
  ok : s.Ok
  m : s.m = n
  p : s.p ≤ n
  tot : s.tot ≤ n
  ids : ∀ z ∈ s.L.flatten, z ≤ 15 ∧ s.num z = z * 7
  gh : ∀ h, h ∈ s.b1 ∨ h ∈ s.b2 → ∃ z, 0 ≤ z ∧ z ≤ 15 ∧ h = z * 7 ∧ z ∉ s.L.flatten
  dis : ∀ h ∈ s.b1, h ∉ s.b2
  l1 : s.b1.length ≤ n
  l2 : s.b2.length ≤ n
theorem Sv.new (n : Nat) (hn : (n : Int) ≤ 9223372036854775807) : Sv n (Ar.new.cap n) := by
  have e : ((n : Nat) : Int).toNat = n := by omega
  refine ⟨Ar.new_ok.cap hn, e, by show min 0 _ ≤ n; omega, by show 0 + 0 ≤ n; omega, fun z hz => ?_, fun h hh => ?_, fun h hh => ?_, ?_, ?_⟩
  · simp [Ar.cap, Ar.new] at hz
  · simp [Ar.cap, Ar.new, Gh.cutL] at hh
  · simp [Ar.cap, Ar.new, Gh.cutL] at hh
  · simp [Ar.cap, Ar.new, Gh.cutL]
  · simp [Ar.cap, Ar.new, Gh.cutL]
theorem Sv.tch {n : Nat} {s : Ar} (h : Sv n s) (z : Int) : Sv n (s.tch z) := by
  have hm := fun y => atch_mem h.ok (z := z) (y := y)
  have e : (s.tch z).num = s.num ∧ (s.tch z).b1 = s.b1 ∧ (s.tch z).b2 = s.b2 ∧ (s.tch z).m = s.m ∧ (s.tch z).p = s.p := by unfold Ar.tch; split <;> exact ⟨rfl, rfl, rfl, rfl, rfl⟩
  obtain ⟨e1, e2, e3, e4, e5⟩ := e
  refine ⟨h.ok.tch z, by rw [e4]; exact h.m, by rw [e5]; exact h.p, by rw [atch_tot h.ok]; exact h.tot, fun y hy => by rw [e1]; exact h.ids y ((hm y).1 hy), fun x hx => ?_, by rw [e2, e3]; exact h.dis, by rw [e2]; exact h.l1, by rw [e3]; exact h.l2⟩
  rw [e2, e3] at hx
  obtain ⟨y, y0, y1, y2, y3⟩ := h.gh x hx
  exact ⟨y, y0, y1, y2, fun e => y3 ((hm y).1 e)⟩
theorem Sv.evict {n : Nat} {s : Ar} (h : Sv n s) {z : Int} (hz : z ∈ s.L.flatten) : Sv n (s.evict z) := by
  have hL := aevict_L s z
  have hnum : ∀ y, y ≠ z → (s.evict z).num y = s.num y := fun y hy => by
    show updN (s.out z).num z 0 y = _
    rw [updN_other hy, (out_L s z).2.1]
  have hm : (s.evict z).m = s.m := (out_L s z).2.2.1
  have hp : (s.evict z).p = s.p := (out_L s z).2.2.2
  have hzz := h.ids z hz
  have hz0 := (h.ok.good.rng z hz).1
  have hno : s.num z ∉ s.b1 ∧ s.num z ∉ s.b2 := by
    constructor
    · intro hin
      obtain ⟨y, _, _, y2, y3⟩ := h.gh _ (.inl hin)
      rw [hzz.2] at y2
      exact y3 (by have : y = z := by omega
                   rw [this]; exact hz)
    · intro hin
      obtain ⟨y, _, _, y2, y3⟩ := h.gh _ (.inr hin)
      rw [hzz.2] at y2
      exact y3 (by have : y = z := by omega
                   rw [this]; exact hz)
  have hgh : ∀ b1' b2', (s.evict z).b1 = b1' → (s.evict z).b2 = b2' → (∀ x, x ∈ b1' ∨ x ∈ b2' → x = s.num z ∨ x ∈ s.b1 ∨ x ∈ s.b2) → ∀ x, x ∈ b1' ∨ x ∈ b2' → ∃ y, 0 ≤ y ∧ y ≤ 15 ∧ x = y * 7 ∧ y ∉ (s.evict z).L.flatten := fun b1' b2' _ _ hs x hx => by
    rw [hL]
    rcases hs x hx with e | e
    · exact ⟨z, hz0, hzz.1, by rw [e, hzz.2], not_take⟩
    · obtain ⟨y, y0, y1, y2, y3⟩ := h.gh x e
      exact ⟨y, y0, y1, y2, fun hin => y3 (mem_take.1 hin).1⟩
  have hids : ∀ y ∈ (s.evict z).L.flatten, y ≤ 15 ∧ (s.evict z).num y = y * 7 := fun y hy => by
    rw [hL] at hy
    have h1 := mem_take.1 hy
    rw [hnum y h1.2]
    exact h.ids y h1.1
  have htot : (s.evict z).tot ≤ n := by have := aevict_tot h.ok hz; have := h.tot; omega
  have hcase : ((s.evict z).b1 = s.b1 ∧ (s.evict z).b2 = s.b2) ∨ ((s.evict z).b1 = Gh.addL s.m s.b1 (s.num z) ∧ (s.evict z).b2 = s.b2) ∨ ((s.evict z).b1 = s.b1 ∧ (s.evict z).b2 = Gh.addL s.m s.b2 (s.num z)) := by
    show ((s.out z).b1 = s.b1 ∧ (s.out z).b2 = s.b2) ∨ ((s.out z).b1 = Gh.addL s.m s.b1 (s.num z) ∧ (s.out z).b2 = s.b2) ∨ ((s.out z).b1 = s.b1 ∧ (s.out z).b2 = Gh.addL s.m s.b2 (s.num z))
    unfold Ar.out
    split
    · exact .inr (.inl ⟨rfl, rfl⟩)
    · exact .inr (.inr ⟨rfl, rfl⟩)
    · exact .inl ⟨rfl, rfl⟩
  rcases hcase with ⟨e1, e2⟩ | ⟨e1, e2⟩ | ⟨e1, e2⟩
  · exact ⟨h.ok.evict z, hm.trans h.m, by rw [hp]; exact h.p, htot, hids, by rw [e1, e2]; exact hgh _ _ e1 e2 (fun x hx => .inr hx), by rw [e1, e2]; exact h.dis, by rw [e1]; exact h.l1, by rw [e2]; exact h.l2⟩
  · have k1 : ∀ x, x ∈ Gh.addL s.m s.b1 (s.num z) ∨ x ∈ s.b2 → x = s.num z ∨ x ∈ s.b1 ∨ x ∈ s.b2 := fun x hx => by
      rcases hx with hx | hx
      · exact (mem_addL hx).imp id .inl
      · exact .inr (.inr hx)
    have k2 : ∀ x ∈ Gh.addL s.m s.b1 (s.num z), x ∉ s.b2 := fun x hx => by
      rcases mem_addL hx with e | e
      · rw [e]; exact hno.2
      · exact h.dis x e
    exact ⟨h.ok.evict z, hm.trans h.m, by rw [hp]; exact h.p, htot, hids, by rw [e1, e2]; exact hgh _ _ e1 e2 k1, by rw [e1, e2]; exact k2, by rw [e1, ← h.m]; exact addL_le _ _ _, by rw [e2]; exact h.l2⟩
  · have k1 : ∀ x, x ∈ s.b1 ∨ x ∈ Gh.addL s.m s.b2 (s.num z) → x = s.num z ∨ x ∈ s.b1 ∨ x ∈ s.b2 := fun x hx => by
      rcases hx with hx | hx
      · exact .inr (.inl hx)
      · exact (mem_addL hx).imp id .inr
    have k2 : ∀ x ∈ s.b1, x ∉ Gh.addL s.m s.b2 (s.num z) := fun x hx hx2 => by
      rcases mem_addL hx2 with e | e
      · rw [e] at hx; exact hno.1 hx
      · exact h.dis x hx e
    exact ⟨h.ok.evict z, hm.trans h.m, by rw [hp]; exact h.p, htot, hids, by rw [e1, e2]; exact hgh _ _ e1 e2 k1, by rw [e1, e2]; exact k2, by rw [e1]; exact h.l1, by rw [e2, ← h.m]; exact addL_le _ _ _⟩
theorem Sv.ins {n : Nat} {s : Ar} (h : Sv n s) {z : Int} (h0 : 0 ≤ z) (h1 : z ≤ 15) (hz : z ∉ s.L.flatten) (hn : s.tot < n) : Sv n (s.ins z (z * 7)) ∧ s.insB z = true ∧ z ∈ (s.ins z (z * 7)).L.flatten := by
  have hh : s.has z = false := by cases e : s.has z; · rfl
                                  · exact absurd (arow_some.1 e) hz
  have hb : s.insB z = true := by unfold Ar.insB; rw [hh, show okId z = true from decide_eq_true ⟨h0, by omega⟩]; rfl
  have hmem := fun y => ains_mem h.ok hb (x := z * 7) (y := y)
  have htot : (s.ins z (z * 7)).tot ≤ n := by rw [ains_tot h.ok _ hb]; omega
  refine ⟨?_, hb, (hmem z).2 (.inl rfl)⟩
  have hids : ∀ nm : Int → Int, nm = updN s.num z (z * 7) → ∀ y ∈ (s.ins z (z * 7)).L.flatten, y ≤ 15 ∧ nm y = y * 7 := fun nm e y hy => by
    rw [e]
    rcases (hmem y).1 hy with e2 | e2
    · rw [e2, updN_same]; exact ⟨h1, rfl⟩
    · rw [updN_other (y := y) (z := z) (fun e3 => hz (by rw [← e3]; exact e2))]; exact h.ids y e2
  have hgh : ∀ x, x ∈ s.b1 ∨ x ∈ s.b2 → x ≠ z * 7 → ∃ y, 0 ≤ y ∧ y ≤ 15 ∧ x = y * 7 ∧ y ∉ (s.ins z (z * 7)).L.flatten := fun x hx hne => by
    obtain ⟨y, y0, y1, y2, y3⟩ := h.gh x hx
    exact ⟨y, y0, y1, y2, fun hin => ((hmem y).1 hin).elim (fun e => hne (by rw [y2, e])) y3⟩
  have oki := h.ok.ins z (z * 7)
  have e : s.ins z (z * 7) = if z * 7 ∈ s.b1 then ⟨opFront s.L 1 z, s.m, Gh.rmL s.b1 (z * 7), s.b2, min s.m (s.p + max 1 (s.b2.length / s.b1.length)), updN s.num z (z * 7)⟩
    else if z * 7 ∈ s.b2 then ⟨opFront s.L 1 z, s.m, s.b1, Gh.rmL s.b2 (z * 7), s.p - max 1 (s.b1.length / s.b2.length), updN s.num z (z * 7)⟩
    else ⟨opFront s.L 0 z, s.m, s.b1, s.b2, s.p, updN s.num z (z * 7)⟩ := by unfold Ar.ins; rw [if_pos hb]
  rw [e] at oki htot hids hgh hmem ⊢
  by_cases a1 : z * 7 ∈ s.b1
  · simp only [if_pos a1] at oki htot hids hgh ⊢
    refine ⟨oki, h.m, by show min s.m _ ≤ n; have := h.m; omega, htot, hids _ rfl, fun x hx => ?_, fun x hx => h.dis x (Gh.rm_mem.1 hx).1, Nat.le_trans (Gh.rm_len _ _) h.l1, h.l2⟩
    rcases hx with hx | hx
    · exact hgh x (.inl (Gh.rm_mem.1 hx).1) (Gh.rm_mem.1 hx).2
    · exact hgh x (.inr hx) (fun e2 => h.dis _ a1 (e2 ▸ hx))
  · by_cases a2 : z * 7 ∈ s.b2
    · simp only [if_neg a1, if_pos a2] at oki htot hids hgh ⊢
      refine ⟨oki, h.m, by show s.p - _ ≤ n; have := h.p; omega, htot, hids _ rfl, fun x hx => ?_, fun x hx hx2 => h.dis x hx (Gh.rm_mem.1 hx2).1, h.l1, Nat.le_trans (Gh.rm_len _ _) h.l2⟩
      rcases hx with hx | hx
      · exact hgh x (.inl hx) (fun e2 => a1 (e2 ▸ hx))
      · exact hgh x (.inr (Gh.rm_mem.1 hx).1) (Gh.rm_mem.1 hx).2
    · simp only [if_neg a1, if_neg a2] at oki htot hids hgh ⊢
      refine ⟨oki, h.m, h.p, htot, hids _ rfl, fun x hx => ?_, h.dis, h.l1, h.l2⟩
      rcases hx with hx | hx
      · exact hgh x (.inl hx) (fun e2 => a1 (e2 ▸ hx))
      · exact hgh x (.inr hx) (fun e2 => a2 (e2 ▸ hx))

/-! A scan -/
structure Sc (i : Nat) (s : Ar) : Prop where
  ok : s.Ok
  again : rowAt s.L 1 = [4, 3, 2, 1, 0]
  once : ∀ z ∈ rowAt s.L 0, 1000 ≤ z ∧ z < 1000 + (i : Int) ∧ s.num z = z
  five : (rowAt s.L 0).length ≤ 5
  p : s.p = 0
  m : s.m = 10
  b1 : ∀ h ∈ s.b1, 1000 ≤ h ∧ h < 1000 + (i : Int)
  b2 : s.b2 = []
theorem Sc.rows {i : Nat} {s : Ar} (h : Sc i s) : ∃ o, s.L = [o, [4, 3, 2, 1, 0]] := by
  obtain ⟨p, q, e⟩ := arows h.ok.two
  have := h.again
  rw [e] at this
  exact ⟨p, by rw [e]; congr 1; exact congrArg (fun x => [x]) this⟩
theorem Sc.tot {i : Nat} {s : Ar} (h : Sc i s) : s.tot = (rowAt s.L 0).length + 5 := by unfold Ar.tot; rw [h.again]; rfl
/-- Who goes for one that comes is one that came once. -/
theorem Sc.evict {i : Nat} {s : Ar} (h : Sc i s) (x : Int) (ht : 10 ≤ s.tot) : 1000 ≤ s.vic x ∧ s.vic x ∈ s.L.flatten ∧ Sc i (s.evict (s.vic x)) ∧ (s.evict (s.vic x)).tot = 9 := by
  obtain ⟨o, e⟩ := h.rows
  have h5 := h.five
  have htt := h.tot
  have ho := h.once
  have hr0 : rowAt s.L 0 = o := by rw [e]; rfl
  rw [hr0] at h5 htt ho
  have hon : s.once x = true := by
    unfold Ar.once
    rw [hr0, h.p, decide_eq_true (show 0 < o.length by omega)]
    rfl
  have hv : s.vic x = lastOf o := by unfold Ar.vic; rw [hon, hr0]; rfl
  have hm : lastOf o ∈ o := alast_mem (fun e2 => by rw [e2] at htt; simp at htt; omega)
  have hz := ho _ hm
  have hnd := h.ok.good.nd
  rw [e, aflat] at hnd
  have hin : s.vic x ∈ s.L.flatten := by rw [hv, e, aflat]; exact List.mem_append.2 (.inl hm)
  have hrow : rowOf s.L (s.vic x) = some 0 := rowOf_at h.ok.good.nd (i := 0) (l := o) (by rw [e]; rfl) (by rw [hv]; exact hm)
  have hout : s.out (s.vic x) = { s with b1 := Gh.addL s.m s.b1 (s.num (s.vic x)) } := by unfold Ar.out; rw [hrow]; rfl
  have hev : s.evict (s.vic x) = ⟨takeL s.L (s.vic x), s.m, Gh.addL s.m s.b1 (s.num (s.vic x)), s.b2, s.p, updN s.num (s.vic x) 0⟩ := by unfold Ar.evict; rw [hout]; rfl
  have htake : takeL s.L (s.vic x) = [o.filter (fun y => decide (y ≠ s.vic x)), [4, 3, 2, 1, 0]] := by
    rw [e]
    unfold takeL
    simp only [List.map_cons, List.map_nil]
    congr 2
    refine List.filter_eq_self.2 (fun y hy => ?_)
    have : y ≤ 4 := by simp at hy; omega
    simp only [decide_eq_true_eq]
    rw [hv]; omega
  have htot := aevict_tot h.ok hin
  have hle : s.tot = 10 := by omega
  refine ⟨by rw [hv]; exact hz.1, hin, ⟨h.ok.evict _, by rw [aevict_L, htake]; rfl, fun y hy => ?_, ?_, by rw [hev]; exact h.p, by rw [hev]; exact h.m, fun y hy => ?_, by rw [hev]; exact h.b2⟩, by omega⟩
  · rw [aevict_L, htake] at hy
    replace hy : y ∈ o.filter (fun y => decide (y ≠ s.vic x)) := hy
    obtain ⟨h1, h2⟩ := List.mem_filter.1 hy
    have h3 := ho y h1
    rw [hev]
    refine ⟨h3.1, h3.2.1, ?_⟩
    show updN s.num (s.vic x) 0 y = y
    rw [updN_other (by simpa using h2)]; exact h3.2.2
  · rw [aevict_L, htake]
    exact Nat.le_trans (List.length_filter_le _ _) h5
  · rw [hev] at hy
    rcases mem_addL hy with e1 | e1
    · rw [e1, hv, hz.2.2]; exact ⟨hz.1, hz.2.1⟩
    · exact h.b1 y e1
theorem Sc.ins {i : Nat} (hi : i ≤ 300) {s : Ar} (h : Sc i s) (ht : s.tot < 10) : s.insB (1000 + (i : Int)) = true ∧ Sc (i + 1) (s.ins (1000 + (i : Int)) (1000 + (i : Int))) := by
  obtain ⟨o, e⟩ := h.rows
  have hr0 : rowAt s.L 0 = o := by rw [e]; rfl
  have htt := h.tot
  have ho := h.once
  rw [hr0] at ho htt
  have hzn : (1000 + (i : Int)) ∉ s.L.flatten := by
    rw [e, aflat, List.mem_append]
    rintro (h1 | h1)
    · have := (ho _ h1).2.1; omega
    · simp at h1; omega
  have hh : s.has (1000 + (i : Int)) = false := by cases e : s.has (1000 + (i : Int)); · rfl
                                                   · exact absurd (arow_some.1 e) hzn
  have hok : okId (1000 + (i : Int)) = true := decide_eq_true ⟨by omega, by omega⟩
  have hb : s.insB (1000 + (i : Int)) = true := by unfold Ar.insB; rw [hh, hok]; rfl
  have hn1 : (1000 + (i : Int)) ∉ s.b1 := fun hin => by have := (h.b1 _ hin).2; omega
  have hn2 : (1000 + (i : Int)) ∉ s.b2 := by rw [h.b2]; simp
  have hev : s.ins (1000 + (i : Int)) (1000 + (i : Int)) = ⟨opFront s.L 0 (1000 + (i : Int)), s.m, s.b1, s.b2, s.p, updN s.num (1000 + (i : Int)) (1000 + (i : Int))⟩ := by unfold Ar.ins; rw [if_pos hb, if_neg hn1, if_neg hn2]
  have hL : opFront s.L 0 (1000 + (i : Int)) = [(1000 + (i : Int)) :: o, [4, 3, 2, 1, 0]] := by
    rw [opFront_yes (may2 h.ok.two (by decide) (by decide) hok)]
    unfold frontL
    rw [take_no hzn, e]; rfl
  refine ⟨hb, h.ok.ins _ _, by rw [hev]; show rowAt (opFront _ _ _) 1 = _; rw [hL]; rfl, fun y hy => ?_, ?_, by rw [hev]; exact h.p, by rw [hev]; exact h.m, fun y hy => ?_, by rw [hev]; exact h.b2⟩
  · rw [hev] at hy ⊢
    replace hy : y ∈ rowAt (opFront s.L 0 (1000 + (i : Int))) 0 := hy
    rw [hL] at hy
    rcases List.mem_cons.1 hy with e1 | e1
    · rw [e1]
      refine ⟨by omega, by omega, ?_⟩
      exact updN_same _ _ _
    · have h3 := ho y e1
      refine ⟨h3.1, by omega, ?_⟩
      show updN s.num _ _ y = y
      rw [updN_other (by omega)]; exact h3.2.2
  · rw [hev]
    show (rowAt (opFront s.L 0 (1000 + (i : Int))) 0).length ≤ 5
    rw [hL]
    show o.length + 1 ≤ 5
    omega
  · rw [hev] at hy
    have := h.b1 y hy
    exact ⟨this.1, by omega⟩
end Go.Proofs.Ytklmgmkeaipppaa.Ac
