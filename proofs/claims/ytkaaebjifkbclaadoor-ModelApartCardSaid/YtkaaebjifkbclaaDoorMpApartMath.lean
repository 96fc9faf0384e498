/-
  Plain mathematics: items and answers but for their tokens; commands of other keys. No conditions.
-/
import Derived.Test.YtkaaebjifkbclaaDoorBaseA
namespace Go.Proofs.YtkaaebjifkbclaaDoor.Md
open Go

def nc (x : It) : It := { x with cas := 0 }
def anc (a : An) : An := { a with it := nc a.it }
theorem gone_nc (now : Int) (x : It) : gone now (nc x) = gone now x := rfl
theorem nc_eq {x y : It} (h : nc x = nc y) : x.key = y.key ∧ x.flags = y.flags ∧ x.val = y.val ∧ x.exp = y.exp ∧ x.last = y.last ∧ x.stale = y.stale ∧ x.won = y.won := by
  obtain ⟨a, b, c, d, e, f, g, i⟩ := x
  obtain ⟨a', b', c', d', e', f', g', i'⟩ := y
  unfold nc at h
  injection h with h1 h2 h3 h4 h5 h6 h7 h8
  exact ⟨h1, h2, h3, h4, h6, h7, h8⟩
/-- Two outcomes that are the same but for tokens. -/
structure Alike (o o' : Option It) (r r' : Out) : Prop where
  at_ : (r.e.at o).map nc = (r'.e.at o').map nc
  an : anc r.a = anc r'.a
section
variable {now : Int} {c : Cm} {most : Int} {cas cas' : Nat} {o o' : Option It}
theorem no_alike (h : o.map nc = o'.map nc) (st : Int) : Alike o o' (Out.no cas st) (Out.no cas' st) := ⟨h, rfl⟩
theorem opt_cases (h : o.map nc = o'.map nc) : (o = none ∧ o' = none) ∨ ∃ k f v e l s w a a', o = some ⟨k, f, v, e, a, l, s, w⟩ ∧ o' = some ⟨k, f, v, e, a', l, s, w⟩ := by
  cases o with
  | none =>
    cases o' with
    | none => exact .inl ⟨rfl, rfl⟩
    | some y => cases h
  | some x =>
    cases o' with
    | none => cases h
    | some y =>
      have h := Option.some.inj h
      obtain ⟨h1, h2, h3, h4, h5, h6, h7⟩ := nc_eq h
      obtain ⟨a, b, c, d, e, f, g, i⟩ := x
      obtain ⟨a', b', c', d', e', f', g', i'⟩ := y
      dsimp only at h1 h2 h3 h4 h5 h6 h7
      subst h1 h2 h3 h4 h5 h6 h7
      exact .inr ⟨_, _, _, _, _, _, _, _, _, rfl, rfl⟩
theorem get_alike (h : o.map nc = o'.map nc) : Alike o o' (getO now c cas o) (getO now c cas' o') := by
  rcases opt_cases h with ⟨rfl, rfl⟩ | ⟨k, f, v, e, l, s, w, a, a', rfl, rfl⟩
  · unfold getO
    dsimp only
    split
    · exact ⟨rfl, rfl⟩
    · exact no_alike rfl 5
  · exact ⟨rfl, rfl⟩
theorem stoE_alike {y y' : It} (hy : nc y = nc y') (h : o.map nc = o'.map nc) : Alike o o' (stoE most cas y) (stoE most cas' y') := by
  obtain ⟨h1, h2, h3, h4, h5, h6, h7⟩ := nc_eq hy
  unfold stoE
  rw [h1, h3]
  split
  · exact no_alike h 11
  · obtain ⟨k, f, v, e, ca, l, s, w⟩ := y
    obtain ⟨k', f', v', e', ca', l', s', w'⟩ := y'
    dsimp only at h1 h2 h3 h4 h5 h6 h7
    subst h1 h2 h3 h4 h5 h6 h7
    exact ⟨rfl, rfl⟩
theorem sto_alike (hc : c.hasCas = false) (h : o.map nc = o'.map nc) : Alike o o' (stoO now c most cas o) (stoO now c most cas' o') := by
  have hs : o.isSome = o'.isSome := by rw [← Option.isSome_map (f := nc), h, Option.isSome_map]
  have hy : nc (stoY now c o false) = nc (stoY now c o' false) := by
    rcases opt_cases h with ⟨rfl, rfl⟩ | ⟨k, f, v, e, l, s, w, a, a', rfl, rfl⟩
    · rfl
    · unfold stoY
      dsimp only
      split
      · rfl
      · rfl
  unfold stoO
  rw [hs]
  split
  · exact no_alike h 3
  · rw [if_neg (by rw [hc]; decide), if_neg (by rw [hc]; decide)]
    exact stoE_alike hy h
theorem matE_alike {y y' : It} (hy : nc y = nc y') (v : ByteArray) (h : o.map nc = o'.map nc) : Alike o o' (matE most cas y v) (matE most cas' y' v) := by
  obtain ⟨h1, h2, h3, h4, h5, h6, h7⟩ := nc_eq hy
  unfold matE
  rw [h1]
  split
  · exact no_alike h 11
  · obtain ⟨k, f, vv, e, ca, l, s, w⟩ := y
    obtain ⟨k', f', vv', e', ca', l', s', w'⟩ := y'
    dsimp only at h1 h2 h3 h4 h5 h6 h7
    subst h1 h2 h3 h4 h5 h6 h7
    exact ⟨rfl, rfl⟩
theorem mat_alike (hc : c.hasCas = false) (h : o.map nc = o'.map nc) : Alike o o' (matO now c most cas o) (matO now c most cas' o') := by
  rcases opt_cases h with ⟨rfl, rfl⟩ | ⟨k, f, v, e, l, s, w, a, a', rfl, rfl⟩
  · unfold matO
    dsimp only
    split
    · exact matE_alike rfl _ rfl
    · exact no_alike rfl 5
  · unfold matO
    dsimp only
    have hn : ∀ z : Nat, ¬ (c.hasCas = true ∧ z ≠ c.cas) := fun z => by rw [hc]; rintro ⟨e, _⟩; cases e
    rw [if_neg (hn a), if_neg (hn a')]
    generalize (if c.down = true then subU v.data.toList c.delta else addU v.data.toList c.delta) = r
    cases r with
    | none => exact no_alike (o := some ⟨k, f, v, e, a, l, s, w⟩) (o' := some ⟨k, f, v, e, a', l, s, w⟩) rfl 7
    | some v2 =>
      dsimp only
      refine matE_alike ?_ _ rfl
      split
      · rfl
      · rfl
theorem tou_alike (h : o.map nc = o'.map nc) : Alike o o' (touO now c cas o) (touO now c cas' o') := by
  rcases opt_cases h with ⟨rfl, rfl⟩ | ⟨k, f, v, e, l, s, w, a, a', rfl, rfl⟩
  · exact no_alike rfl 5
  · exact ⟨rfl, rfl⟩
theorem del_alike (hc : c.hasCas = false) (h : o.map nc = o'.map nc) : Alike o o' (delO now c cas o) (delO now c cas' o') := by
  rcases opt_cases h with ⟨rfl, rfl⟩ | ⟨k, f, v, e, l, s, w, a, a', rfl, rfl⟩
  · exact no_alike rfl 5
  · unfold delO
    dsimp only
    have hn : ∀ z : Nat, ¬ (c.hasCas = true ∧ z ≠ c.cas) := fun z => by rw [hc]; rintro ⟨e, _⟩; cases e
    rw [if_neg (hn a), if_neg (hn a')]
    split
    · exact ⟨rfl, rfl⟩
    · exact ⟨rfl, rfl⟩
theorem loo_alike (h : o.map nc = o'.map nc) : Alike o o' (looO cas o) (looO cas' o') := by
  rcases opt_cases h with ⟨rfl, rfl⟩ | ⟨k, f, v, e, l, s, w, a, a', rfl, rfl⟩
  · exact no_alike rfl 5
  · exact ⟨rfl, rfl⟩
theorem core_alike (hc : c.hasCas = false) (h : o.map nc = o'.map nc) : Alike o o' (core now c most cas o) (core now c most cas' o') := by
  unfold core
  split
  · exact get_alike h
  · split
    · exact sto_alike hc h
    · split
      · exact mat_alike hc h
      · split
        · exact tou_alike h
        · split
          · exact del_alike hc h
          · exact loo_alike h
end
theorem filt_nc (o : Option It) (now : Int) : (o.filter (fun x => !gone now x)).map nc = (o.map nc).filter (fun x => !gone now x) := by
  cases o with
  | none => rfl
  | some x =>
    have h := gone_nc now x
    cases hg : gone now x
    · rw [hg] at h
      simp [Option.filter, hg, h]
    · rw [hg] at h
      simp [Option.filter, hg, h]
/-- The same of all keys but one, at a moment. -/
def Rel (key : ByteArray) (now : Int) (s t : Ms) : Prop := s.fl = 0 ∧ t.fl = 0 ∧ ∀ k, k ≠ key → ((find s.its k).filter (fun x => !gone now x)).map nc = ((find t.its k).filter (fun x => !gone now x)).map nc
theorem gone_mono {x : It} {now now' : Int} (h : now ≤ now') (hg : gone now x = true) : gone now' x = true := by
  unfold gone at hg ⊢
  rw [Bool.and_eq_true, decide_eq_true_iff, decide_eq_true_iff] at hg ⊢
  exact ⟨hg.1, Int.le_trans hg.2 h⟩
theorem filt_later (o : Option It) {now now' : Int} (h : now ≤ now') : o.filter (fun x => !gone now' x) = (o.filter (fun x => !gone now x)).filter (fun x => !gone now' x) := by
  cases o with
  | none => rfl
  | some x =>
    cases hg : gone now x
    · have : (some x).filter (fun x => !gone now x) = some x := by simp [Option.filter, hg]
      rw [this]
    · have h1 : (some x).filter (fun x => !gone now x) = none := by simp [Option.filter, hg]
      have h2 : (some x).filter (fun x => !gone now' x) = none := by simp [Option.filter, gone_mono h hg]
      rw [h1, h2]; rfl
theorem Rel.later {key : ByteArray} {now now' : Int} {s t : Ms} (hr : Rel key now s t) (h : now ≤ now') : Rel key now' s t :=
  ⟨hr.1, hr.2.1, fun k hk => by rw [filt_later _ h, filt_later (find t.its k) h, filt_nc, hr.2.2 k hk, ← filt_nc]⟩
theorem live_zero {s : Ms} (h : s.fl = 0) (now : Int) : live s now = ⟨s.its.filter (fun x => !gone now x), s.cas, 0⟩ := by
  unfold live
  rw [if_neg (fun e => e.1 h), h]
theorem apply_zero {s : Ms} {now : Int} {c : Cm} {most : Int} (h0 : s.fl = 0) (hs : Sorted s.its) (hf : fine now c = true) (h6 : c.op ≠ 6) :
    (apply s now c most).1.fl = 0 ∧ (apply s now c most).2 = (core now c most s.cas ((find s.its c.key).filter (fun x => !gone now x))).a ∧
    ∀ k, find (apply s now c most).1.its k = if k = c.key then (core now c most s.cas ((find s.its c.key).filter (fun x => !gone now x))).e.at ((find s.its c.key).filter (fun x => !gone now x)) else (find s.its k).filter (fun x => !gone now x) := by
  unfold apply
  rw [if_neg (by rw [hf]; decide), if_neg h6, live_zero h0]
  dsimp only
  rw [find_filt hs]
  refine ⟨rfl, rfl, fun k => ?_⟩
  rw [on_find (core_for (fun x hx => by
    cases e : find s.its c.key with
    | none => rw [e] at hx; cases hx
    | some y =>
      rw [e] at hx
      have := (Option.filter_eq_some_iff.1 hx).1
      cases this
      exact (find_some e).2)) _ k, find_filt hs, find_filt hs]
theorem rel_own {key : ByteArray} {now : Int} {s t : Ms} {c : Cm} {most : Int} (hr : Rel key now s t) (hs : Sorted s.its) (hf : fine now c = true) (h6 : c.op ≠ 6) (hk : c.key = key) : Rel key now (apply s now c most).1 t := by
  obtain ⟨h1, -, h3⟩ := apply_zero (most := most) hr.1 hs hf h6
  refine ⟨h1, hr.2.1, fun k hne => ?_⟩
  rw [h3, if_neg (by rw [hk]; exact hne), ← filt_later _ (Int.le_refl now)]
  exact hr.2.2 k hne
theorem rel_other {key : ByteArray} {now : Int} {s t : Ms} {c : Cm} {most : Int} (hr : Rel key now s t) (hs : Sorted s.its) (ht : Sorted t.its) (hf : fine now c = true) (h6 : c.op ≠ 6) (hc : c.hasCas = false) (hk : c.key ≠ key) :
    Rel key now (apply s now c most).1 (apply t now c most).1 ∧ anc (apply s now c most).2 = anc (apply t now c most).2 := by
  obtain ⟨h1, h2, h3⟩ := apply_zero (most := most) hr.1 hs hf h6
  obtain ⟨g1, g2, g3⟩ := apply_zero (most := most) hr.2.1 ht hf h6
  have ha := core_alike (now := now) (most := most) (cas := s.cas) (cas' := t.cas) hc (hr.2.2 c.key hk)
  refine ⟨⟨h1, g1, fun k hne => ?_⟩, by rw [h2, g2]; exact ha.an⟩
  rw [h3, g3]
  split
  · rw [filt_nc, ha.at_, ← filt_nc]
  · rw [← filt_later _ (Int.le_refl now), ← filt_later _ (Int.le_refl now)]
    exact hr.2.2 k hne
theorem rel_no (key : ByteArray) (now : Int) : Rel key now noMs noMs := ⟨rfl, rfl, fun _ _ => rfl⟩
end Go.Proofs.YtkaaebjifkbclaaDoor.Md
