/-
  Plain mathematics: what the program's own do makes of a state is what the document says. No program is run in it. Conditions: the items stand in order; none of them is gone.
-/
import Derived.Test.YtpgljahomeebhaaDoorMpDo
namespace Go.Proofs.YtpgljahomeebhaaDoor.Md
open Go Go.RowKit Go.Lib

theorem idx_pos {l : List It} (h : Sorted l) {k : ByteArray} {x : It} (hx : find l k = some x) : idx (fun y => decide (y.key = k)) l = (pos l k : Int) ∧ l[pos l k]? = some x := by
  have ha : isAt l k = true := by unfold isAt; rw [hx]; rfl
  have h1 := pos_at h k ha
  rw [hx] at h1
  refine ⟨idx_hit h1 (decide_eq_true (find_some hx).2) (fun j y hj hy => decide_eq_false (klt_ne (pos_fwd l k j y hy hj))), h1⟩
theorem idx_no {l : List It} {k : ByteArray} (hx : find l k = none) : idx (fun y => decide (y.key = k)) l = -1 :=
  idx_none (fun _ y hy => decide_eq_false (find_none.1 hx y (List.mem_of_getElem? hy)))
theorem set_put {l : List It} (h : Sorted l) {k : ByteArray} {x y : It} (hx : find l k = some x) (hy : y.key = k) : l.set (pos l k) y = put l y := by
  have ha : isAt l k = true := by unfold isAt; rw [hx]; rfl
  have h1 := (idx_pos h hx).2
  have hlt : pos l k < l.length := (List.getElem?_eq_some_iff.1 h1).1
  have h2 := pos_drop h k
  rw [ha, if_pos rfl] at h2
  rw [List.set_eq_take_append_cons_drop, if_pos hlt, pos_take h, h2]
  unfold put
  rw [hy]
theorem erase_drp {l : List It} (h : Sorted l) {k : ByteArray} {x : It} (hx : find l k = some x) : l.eraseIdx (pos l k) = drp l k := by
  have ha : isAt l k = true := by unfold isAt; rw [hx]; rfl
  have h1 := (idx_pos h hx).2
  obtain ⟨hlt, he⟩ := List.getElem?_eq_some_iff.1 h1
  have hkx := (find_some hx).2
  have h2 := pos_drop h k
  rw [ha, if_pos rfl] at h2
  have h3 := pos_take h k
  have e : l = l.take (pos l k) ++ x :: l.drop (pos l k + 1) := by
    rw [← he]; simp
  have f1 : (l.take (pos l k)).filter (fun y => decide (y.key ≠ k)) = l.take (pos l k) := List.filter_eq_self.2 (fun y hy => by
    rw [h3] at hy
    exact decide_eq_true (klt_ne (List.mem_filter.1 hy).2))
  have f2 : (l.drop (pos l k + 1)).filter (fun y => decide (y.key ≠ k)) = l.drop (pos l k + 1) := List.filter_eq_self.2 (fun y hy => by
    rw [h2] at hy
    exact decide_eq_true (fun e => klt_ne (List.mem_filter.1 hy).2 e.symm))
  unfold drp
  rw [List.eraseIdx_eq_take_drop_succ]
  conv => rhs; rw [e, List.filter_append, List.filter_cons_of_neg (by simp [hkx]), f1, f2]
theorem ins_put {l : List It} (h : Sorted l) {y : It} (hx : find l y.key = none) : insL l y = put l y := by
  have ha : isAt l y.key = false := by unfold isAt; rw [hx]; rfl
  have h2 := pos_drop h y.key
  rw [ha, if_neg (by decide)] at h2
  unfold insL put
  rw [pos_take h, h2]
/-- It is what a command at now finds. -/
structure Wk.At (s : Wk) (o : Option It) : Prop where
  sorted : Sorted s.l
  is : o = find s.l s.c.key
  ix : s.ix = idx (fun y => decide (y.key = s.c.key)) s.l
  x : s.x = o.getD noIt
section
variable {s : Wk} {o : Option It}
theorem Wk.At.there (h : s.At o) : s.there = o.isSome := by
  unfold Wk.there
  rw [h.ix, h.is]
  cases hx : find s.l s.c.key with
  | none => rw [idx_no hx]; rfl
  | some x => rw [(idx_pos h.sorted hx).1]; simp
theorem Wk.At.kept (h : s.At o) {y : It} (hy : y.key = s.c.key) : s.kept y = put s.l y := by
  unfold Wk.kept
  cases hx : find s.l s.c.key with
  | none =>
    rw [h.ix, idx_no hx, if_neg (by decide)]
    exact ins_put h.sorted (by rw [hy]; exact hx)
  | some x =>
    have h1 := (idx_pos h.sorted hx).1
    rw [h.ix, h1, if_pos (by omega), Int.toNat_natCast]
    exact set_put h.sorted hx hy
theorem Wk.At.erase (h : s.At o) {x : It} (hx : o = some x) : s.l.eraseIdx s.ix.toNat = drp s.l s.c.key := by
  rw [h.is] at hx
  rw [h.ix, (idx_pos h.sorted hx).1, Int.toNat_natCast]
  exact erase_drp h.sorted hx
theorem Wk.At.some (h : s.At o) {x : It} (hx : o = Option.some x) : s.x = x ∧ x.key = s.c.key := by
  refine ⟨by rw [h.x, hx]; rfl, ?_⟩
  rw [h.is] at hx
  exact (find_some hx).2
theorem Wk.At.lt (h : s.At o) : s.ix < s.l.length := by
  rw [h.ix]
  cases hx : find s.l s.c.key with
  | none => rw [idx_no hx]; omega
  | some x =>
    rw [(idx_pos h.sorted hx).1]
    have := (List.getElem?_eq_some_iff.1 (idx_pos h.sorted hx).2).1
    omega
/-- What is left behind, and told. -/
def Wk.Is (s : Wk) (r : An × Wk) (u : Out) : Prop := r.1 = u.a ∧ r.2.l = u.e.on s.l s.c.key ∧ r.2.cas = u.cas ∧ r.2.fl = s.fl
theorem Wk.Is.no (st : Int) : s.Is (An.of st, s) (Out.no s.cas st) := ⟨rfl, rfl, rfl, rfl⟩
theorem get_is (h : s.At o) (hl : ∀ x, o = Option.some x → x.exp = 0 ∨ s.now < x.exp) (h1 : s.c.op = 1) : s.Is (if s.there = false then s.mis else s.getR) (getO s.now s.c s.cas o) := by
  rw [h.there]
  cases o with
  | none =>
    rw [if_pos (show (Option.none : Option It).isSome = false from rfl)]
    unfold Wk.mis getO
    rw [h1]
    cases hv : s.c.viv
    · exact Wk.Is.no 5
    · exact ⟨rfl, h.kept rfl, rfl, rfl⟩
  | some x =>
    obtain ⟨hx, hk⟩ := h.some rfl
    rw [if_neg (show ¬ (Option.some x).isSome = false from fun e => by cases e)]
    have hw : s.wins = (!x.won && (x.stale || (decide (0 ≤ s.c.rcc) && (decide (x.exp ≠ 0) && decide (x.exp - s.now < s.c.rcc))))) := by
      unfold Wk.wins Wk.soon
      rw [hx]
      congr 2
      rcases hl x rfl with e | e
      · simp [e]
      · by_cases hr : x.exp - s.now < s.c.rcc
        · have : 0 ≤ s.c.rcc := by omega
          simp [this]
        · simp [hr]
    have hg : s.got = { x with won := x.won || s.wins, exp := (if s.c.hasExp then moment s.now s.c.exp else x.exp), last := s.now } := by
      unfold Wk.got Wk.nexp
      rw [hx]
    refine ⟨?_, ?_, rfl, rfl⟩
    · show (⟨1, s.got, 0, s.wins, s.x.stale, s.x.won⟩ : An) = _
      rw [hg, hx, hw]; rfl
    · show s.kept s.got = _
      rw [h.kept (by rw [hg]; exact hk), hg, hw]
      rfl
theorem sto_is (h : s.At o) (m0 : 0 ≤ s.c.mode) (m4 : s.c.mode ≤ 4) : s.Is s.sto (stoO s.now s.c s.most s.cas o) := by
  have hr : s.refu = (if s.there then (if s.c.mode = 1 then 3 else if s.oth && !(s.c.inv && decide (s.c.cas < s.x.cas)) then 4 else 0) else (if 2 ≤ s.c.mode then 3 else if s.c.hasCas then 5 else 0)) := rfl
  have key : ∀ y : It, s.std = y → y.key = s.c.key → s.refu = 0 → s.Is s.sto (stoE s.most s.cas y) := fun y hy hk h0 => by
    unfold Wk.sto stoE
    rw [if_neg (by simp [h0]), hy]
    unfold Wk.large
    by_cases hm : s.most < ((y.key.size + y.val.size : Nat) : Int)
    · rw [decide_eq_true hm, if_pos rfl, if_pos hm]; exact Wk.Is.no 11
    · rw [decide_eq_false hm, if_neg (by decide), if_neg hm]
      exact ⟨rfl, h.kept (y := { y with cas := bump s.cas }) hk, rfl, rfl⟩
  have no : ∀ st : Int, st ≠ 0 → s.refu = st → s.Is s.sto (Out.no s.cas st) := fun st h0 e => by
    unfold Wk.sto
    rw [e, if_pos h0]; exact Wk.Is.no st
  rw [h.there] at hr
  cases o with
  | none =>
    rw [show (Option.none : Option It).isSome = false from rfl, if_neg (by decide)] at hr
    unfold stoO
    by_cases h2 : 2 ≤ s.c.mode
    · rw [if_pos h2] at hr
      rw [if_pos (.inr ⟨h2, rfl⟩)]
      exact no 3 (by decide) hr
    · rw [if_neg h2] at hr
      rw [if_neg (by rintro (⟨_, e⟩ | ⟨e, _⟩); cases e; exact h2 e)]
      cases hc : s.c.hasCas
      · rw [hc] at hr
        rw [if_neg (by decide)]
        refine key _ ?_ rfl hr
        unfold Wk.std stoY
        rw [if_neg (by omega), if_neg (by omega)]
        have : s.oth = false := by unfold Wk.oth; rw [hc]; rfl
        rw [this]
      · rw [hc, if_pos rfl] at hr
        rw [if_pos rfl]
        exact no 5 (by decide) hr
  | some x =>
    obtain ⟨hx, hk⟩ := h.some rfl
    rw [show (Option.some x).isSome = true from rfl, if_pos rfl] at hr
    unfold stoO
    by_cases h1 : s.c.mode = 1
    · rw [if_pos h1] at hr
      rw [if_pos (.inl ⟨h1, rfl⟩)]
      exact no 3 (by decide) hr
    · rw [if_neg h1] at hr
      rw [if_neg (by rintro (⟨e, _⟩ | ⟨_, e⟩); exact h1 e; cases e)]
      have hstd : ∀ b, s.oth = b → s.std = stoY s.now s.c (Option.some x) b ∧ (stoY s.now s.c (Option.some x) b).key = s.c.key := fun b hb => by
        unfold Wk.std stoY
        rw [hx, hb]
        by_cases h3 : s.c.mode = 3
        · rw [if_pos h3]; simp only [h3]; exact ⟨rfl, hk⟩
        · rw [if_neg h3]
          by_cases h4 : s.c.mode = 4
          · rw [if_pos h4]; simp only [h4]; exact ⟨rfl, hk⟩
          · rw [if_neg h4]
            show _ = (if 3 ≤ s.c.mode then _ else _) ∧ (if 3 ≤ s.c.mode then _ else _ : It).key = _
            rw [if_neg (by omega)]
            exact ⟨rfl, rfl⟩
      cases hc : s.c.hasCas
      · have ho : s.oth = false := by unfold Wk.oth; rw [hc]; rfl
        rw [ho] at hr
        rw [if_neg (by decide)]
        exact key _ (hstd false ho).1 (hstd false ho).2 hr
      · rw [if_pos rfl]
        show s.Is s.sto (if x.cas ≠ s.c.cas ∧ ¬ (s.c.inv = true ∧ s.c.cas < x.cas) then _ else _)
        have ho : s.oth = decide (x.cas ≠ s.c.cas) := by
          unfold Wk.oth
          rw [hc, hx, Bool.true_and]
          by_cases e : s.c.cas = x.cas
          · simp [e]
          · simp [e, Ne.symm e]
        rw [hx] at hr
        by_cases hn : x.cas ≠ s.c.cas ∧ ¬ (s.c.inv = true ∧ s.c.cas < x.cas)
        · rw [if_pos hn]
          refine no 4 (by decide) ?_
          rw [hr, ho]
          have h2 : (s.c.inv && decide (s.c.cas < x.cas)) = false := by
            cases hi : s.c.inv
            · rfl
            · rw [Bool.true_and, decide_eq_false (fun e => hn.2 ⟨hi, e⟩)]
          rw [h2, decide_eq_true hn.1]; rfl
        · rw [if_neg hn]
          refine key _ (hstd _ ho).1 (hstd _ ho).2 ?_
          rw [hr, ho]
          by_cases e : x.cas = s.c.cas
          · simp [e]
          · have h2 : s.c.inv = true ∧ s.c.cas < x.cas := by
              refine Classical.byContradiction fun q => hn ⟨e, q⟩
            simp [h2.1, h2.2]
theorem cnt_is (h : s.At o) {x y : It} (v : ByteArray) (hx : x = { y with val := v }) (hk : y.key = s.c.key) : s.Is (s.cnt x) (matE s.most s.cas y v) := by
  subst hx
  unfold Wk.cnt matE Wk.large
  by_cases hm : s.most < ((y.key.size + v.size : Nat) : Int)
  · rw [if_pos (by exact decide_eq_true hm), if_pos hm]; exact Wk.Is.no 11
  · rw [if_neg (by show ¬ decide (s.most < ((y.key.size + v.size : Nat) : Int)) = true; rw [decide_eq_false hm]; decide), if_neg hm]
    exact ⟨rfl, h.kept (y := { y with val := v, cas := bump s.cas }) hk, rfl, rfl⟩
theorem mat_is (h : s.At o) (h3 : s.c.op = 3) : s.Is (if s.there = false then s.mis else s.count) (matO s.now s.c s.most s.cas o) := by
  rw [h.there]
  cases o with
  | none =>
    rw [if_pos (show (Option.none : Option It).isSome = false from rfl)]
    unfold Wk.mis matO
    rw [h3]
    cases hv : s.c.viv
    · exact Wk.Is.no 5
    · exact cnt_is h (S (Lib.decDigits s.c.init)) rfl rfl
  | some x =>
    obtain ⟨hx, hk⟩ := h.some rfl
    rw [if_neg (show ¬ (Option.some x).isSome = false from fun e => by cases e)]
    unfold Wk.count
    rw [show matO s.now s.c s.most s.cas (Option.some x) = (if s.c.hasCas = true ∧ x.cas ≠ s.c.cas then Out.no s.cas 4 else match (if s.c.down then subU x.val.data.toList s.c.delta else addU x.val.data.toList s.c.delta) with | Option.none => Out.no s.cas 7 | Option.some v => matE s.most s.cas (if s.c.hasExp then { x with exp := moment s.now s.c.exp } else x) (S v)) from rfl]
    have ho : s.oth = decide (s.c.hasCas = true ∧ x.cas ≠ s.c.cas) := by
      unfold Wk.oth
      rw [hx]
      cases s.c.hasCas
      · simp
      · by_cases e : s.c.cas = x.cas
        · simp [e]
        · simp [e, Ne.symm e]
    rw [ho]
    by_cases hn : s.c.hasCas = true ∧ x.cas ≠ s.c.cas
    · rw [if_pos (decide_eq_true hn), if_pos hn]; exact Wk.Is.no 4
    · rw [if_neg (by rw [decide_eq_false hn]; decide), if_neg hn]
      have hnum : s.num = (if s.c.down then subU x.val.data.toList s.c.delta else addU x.val.data.toList s.c.delta) := by
        unfold Wk.num; rw [hx]; rfl
      rw [hnum]
      cases (if s.c.down then subU x.val.data.toList s.c.delta else addU x.val.data.toList s.c.delta) with
      | none => exact Wk.Is.no 7
      | some v =>
        refine cnt_is h (S v) ?_ ?_
        · unfold Wk.nexp
          rw [hx]
          cases s.c.hasExp <;> rfl
        · cases s.c.hasExp <;> exact hk
theorem tou_is (h : s.At o) (h4 : s.c.op = 4) : s.Is (if s.there = false then s.mis else s.tou) (touO s.now s.c s.cas o) := by
  rw [h.there]
  cases o with
  | none =>
    rw [if_pos (show (Option.none : Option It).isSome = false from rfl)]
    unfold Wk.mis touO
    rw [h4]
    cases s.c.viv <;> exact Wk.Is.no 5
  | some x =>
    obtain ⟨hx, hk⟩ := h.some rfl
    rw [if_neg (show ¬ (Option.some x).isSome = false from fun e => by cases e)]
    unfold Wk.tou touO
    rw [hx]
    exact ⟨rfl, h.kept (y := { x with exp := moment s.now s.c.exp }) hk, rfl, rfl⟩
theorem rem_is (h : s.At o) (h5 : s.c.op = 5) : s.Is (if s.there = false then s.mis else s.rem) (delO s.now s.c s.cas o) := by
  rw [h.there]
  cases o with
  | none =>
    rw [if_pos (show (Option.none : Option It).isSome = false from rfl)]
    unfold Wk.mis delO
    rw [h5]
    cases s.c.viv <;> exact Wk.Is.no 5
  | some x =>
    obtain ⟨hx, hk⟩ := h.some rfl
    rw [if_neg (show ¬ (Option.some x).isSome = false from fun e => by cases e)]
    unfold Wk.rem
    rw [show delO s.now s.c s.cas (Option.some x) = (if s.c.hasCas = true ∧ x.cas ≠ s.c.cas then Out.no s.cas 4 else if s.c.inv = false then ⟨.drp, s.cas, An.of 9⟩ else ⟨.put (delY s.now s.c s.cas x), bump s.cas, An.is 9 (delY s.now s.c s.cas x)⟩) from rfl]
    have ho : s.oth = decide (s.c.hasCas = true ∧ x.cas ≠ s.c.cas) := by
      unfold Wk.oth
      rw [hx]
      cases s.c.hasCas
      · simp
      · by_cases e : s.c.cas = x.cas
        · simp [e]
        · simp [e, Ne.symm e]
    rw [ho]
    by_cases hn : s.c.hasCas = true ∧ x.cas ≠ s.c.cas
    · rw [if_pos (decide_eq_true hn), if_pos hn]; exact Wk.Is.no 4
    · rw [if_neg (by rw [decide_eq_false hn]; decide), if_neg hn]
      cases hi : s.c.inv
      · rw [if_neg (by decide), if_pos rfl]
        exact ⟨rfl, h.erase rfl, rfl, rfl⟩
      · rw [if_pos rfl, if_neg (by decide)]
        have hy : ({ s.x with stale := true, won := false, exp := s.nexp, cas := bump s.cas } : It) = delY s.now s.c s.cas x := by
          unfold delY Wk.nexp; rw [hx]
        rw [hy]
        exact ⟨rfl, h.kept hk, rfl, rfl⟩
theorem run_is (h : s.At o) (hl : ∀ x, o = Option.some x → x.exp = 0 ∨ s.now < x.exp) (m0 : 0 ≤ s.c.mode) (m4 : s.c.mode ≤ 4) (h6 : s.c.op ≠ 6) : s.Is s.run (core s.now s.c s.most s.cas o) := by
  unfold Wk.run core
  by_cases o2 : s.c.op = 2
  · rw [if_pos o2, if_neg (by omega), if_pos o2]; exact sto_is h m0 m4
  · rw [if_neg o2, if_neg h6]
    by_cases o1 : s.c.op = 1
    · rw [if_pos o1, if_pos o1]; exact get_is h hl o1
    · rw [if_neg o1, if_neg o1, if_neg o2]
      by_cases o3 : s.c.op = 3
      · rw [if_pos o3, if_pos o3]; exact mat_is h o3
      · rw [if_neg o3, if_neg o3]
        by_cases o4 : s.c.op = 4
        · rw [if_pos o4, if_pos o4]; exact tou_is h o4
        · rw [if_neg o4, if_neg o4]
          by_cases o5 : s.c.op = 5
          · rw [if_pos o5, if_pos o5]; exact rem_is h o5
          · rw [if_neg o5, if_neg o5, h.there]
            cases o with
            | none =>
              rw [if_pos (show (Option.none : Option It).isSome = false from rfl)]
              unfold Wk.mis looO
              rw [decide_eq_false o1, decide_eq_false o3]
              cases s.c.viv <;> exact Wk.Is.no 5
            | some x =>
              rw [if_neg (show ¬ (Option.some x).isSome = false from fun e => by cases e), (h.some rfl).1]
              exact ⟨rfl, rfl, rfl, rfl⟩
end
end Go.Proofs.YtpgljahomeebhaaDoor.Md
