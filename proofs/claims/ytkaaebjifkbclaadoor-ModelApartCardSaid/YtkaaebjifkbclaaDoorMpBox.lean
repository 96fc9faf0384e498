/-
  Apply of any state; boxes of a law's own, all in one row. Conditions: the state is not over great; numbers are in their types' ranges.
  Boxes of a law's own beside rows of items. No conditions.
-/
import Derived.Test.YtkaaebjifkbclaaDoorMpApplyB
import Derived.Test.YtkaaebjifkbclaaDoorBaseA
namespace Go.Proofs.YtkaaebjifkbclaaDoor.Md
open Go Go.RowKit Go.Lib

theorem apply_any {s : Ms} {a : Option Addr} {n ca N B : Nat} {w : World} {now : Int} {c : Cm} {most : Int} (hI : Its w (.slice a n ca) s.its) (hF : Fit N B s) (hN : N ≤ 4194304) (hB : B ≤ 1048576) (ck : c.Ok) (hv : Nu.Vars w) :
    Calls Tryd.prog 17 #[.agg #[.slice a n ca, .int .u64 s.cas, .int .i64 s.fl], .int .i64 now, c.v, .int .i64 most] w fun e w' => ∃ a' n' c', e = .returned (.tuple #[.agg #[.slice a' n' c', .int .u64 (apply s now c most).1.cas, .int .i64 (apply s now c most).1.fl], (apply s now c most).2.v]) ∧ Rw (fun b => w.heap.size ≤ b ∧ b < w'.heap.size) w' (.slice a' n' c') (apply s now c most).1.its ∧ Below w.heap.size w w' := by
  obtain ⟨l, cas, fl⟩ := s
  have hn : n = l.length := by
    obtain ⟨a1, c1, e, _⟩ := hI
    injection e
  subst hn
  cases hf : fine now c
  · refine (apply_no (a := a) (ca := ca) cas fl now c most hf (w := w) (l := l)).mono ?_
    rintro e w' ⟨rfl, hb⟩
    refine ⟨none, 0, 0, ?_, ?_, hb⟩
    · unfold apply; rw [hf]; rfl
    · have : (apply ⟨l, cas, fl⟩ now c most).1.its = [] := by unfold apply; rw [hf]; rfl
      rw [this]; exact rw_nil _ _
  · have hp := fine_parts hf
    refine (apply_yes (cas := cas) (fl := fl) (most := most) hf hI hF.sorted (Nat.le_trans hF.len hN) (fun x hx => ⟨(hF.its x hx).exp, (hF.its x hx).ok.exp1, by have := (hF.its x hx).key; omega, by have := (hF.its x hx).val; omega⟩) (fun h6 => by have := keyfine hf h6; omega) (by have := ck.init; omega) hv).mono ?_
    rintro e w' ⟨v', rfl, hr, hb⟩
    obtain ⟨a', c', rfl⟩ := hr.form
    exact ⟨a', _, c', rfl, hr, hb⟩
/-- The boxes of a law. -/
def Bxs (w0 : World) (bs : List (Nat × TypeId × List Value)) (w : World) : Prop := Below w0.heap.size w0 w ∧ (∀ b ∈ bs, Blk w b.1 b.2.1 b.2.2 ∧ w0.heap.size ≤ b.1) ∧ bs.Pairwise (fun x y => x.1 ≠ y.1)
section
variable {w0 w w' : World} {bs : List (Nat × TypeId × List Value)}
theorem Bxs.begin (w : World) : Bxs w [] w := ⟨Below.refl _ _, fun _ h => (by cases h), List.Pairwise.nil⟩
theorem Bxs.step (h : Bxs w0 bs w) (hb : Below w.heap.size w w') : Bxs w0 bs w' := ⟨Below.then h.1 hb, fun b hm => ⟨(h.2.1 b hm).1.below hb, (h.2.1 b hm).2⟩, h.2.2⟩
theorem Bxs.new (h : Bxs w0 bs w) (cs : Array Value) (t : TypeId) : Bxs w0 ((w.heap.size, t, cs.toList) :: bs) (w.alloc (.cells cs t)) := by
  refine ⟨Below.then h.1 (abelow _ _), fun b hm => ?_, List.pairwise_cons.2 ⟨fun b hm e => ?_, h.2.2⟩⟩
  · rcases List.mem_cons.1 hm with rfl | hm
    · exact ⟨Blk.new w cs t, h.1.size⟩
    · exact (h.step (abelow _ _)).2.1 b hm
  · have e : w.heap.size = b.1 := e
    have := (h.2.1 b hm).1.lt
    omega
theorem Bxs.get (h : Bxs w0 bs w) (i : Nat) {b : Nat} {t : TypeId} {cs : List Value} (hi : bs[i]? = some (b, t, cs)) : Blk w b t cs := (h.2.1 _ (List.mem_of_getElem? hi)).1
theorem Bxs.ge (h : Bxs w0 bs w) (i : Nat) {b : Nat} {t : TypeId} {cs : List Value} (hi : bs[i]? = some (b, t, cs)) : w0.heap.size ≤ b := (h.2.1 _ (List.mem_of_getElem? hi)).2
theorem pw_set {α : Type} {f : α → Nat} : ∀ {l : List α} {i : Nat} {x y : α}, l.Pairwise (fun a b => f a ≠ f b) → l[i]? = some x → f y = f x → (l.set i y).Pairwise (fun a b => f a ≠ f b)
  | [], _, _, _, _, hi, _ => (by simp at hi)
  | a :: l, 0, x, y, h, hi, e => by
    have h1 := List.pairwise_cons.1 h
    have : a = x := by simpa using hi
    subst this
    exact List.pairwise_cons.2 ⟨fun b hb => by rw [e]; exact h1.1 b hb, h1.2⟩
  | a :: l, i + 1, x, y, h, hi, e => by
    have h1 := List.pairwise_cons.1 h
    have hi : l[i]? = some x := by simpa using hi
    refine List.pairwise_cons.2 ⟨fun b hb => ?_, pw_set h1.2 hi e⟩
    rcases List.mem_or_eq_of_mem_set hb with hb | rfl
    · exact h1.1 b hb
    · rw [e]; exact h1.1 x (List.mem_of_getElem? hi)
theorem pw_ne {α : Type} {f : α → Nat} : ∀ {l : List α} {i j : Nat} {x y : α}, l.Pairwise (fun a b => f a ≠ f b) → l[i]? = some x → l[j]? = some y → i ≠ j → f x ≠ f y
  | [], _, _, _, _, _, hi, _, _ => (by simp at hi)
  | a :: l, 0, 0, x, y, _, _, _, hn => (hn rfl).elim
  | a :: l, 0, j + 1, x, y, h, hi, hj, _ => by
    have : a = x := by simpa using hi
    subst this
    exact (List.pairwise_cons.1 h).1 y (List.mem_of_getElem? (by simpa using hj))
  | a :: l, i + 1, 0, x, y, h, hi, hj, _ => by
    have : a = y := by simpa using hj
    subst this
    exact fun e => (List.pairwise_cons.1 h).1 x (List.mem_of_getElem? (by simpa using hi)) e.symm
  | a :: l, i + 1, j + 1, x, y, h, hi, hj, hn => pw_ne (List.pairwise_cons.1 h).2 (i := i) (j := j) (by simpa using hi) (by simpa using hj) (fun e => hn (by rw [e]))
theorem Bxs.set (h : Bxs w0 bs w) (i : Nat) {b : Nat} {t : TypeId} {cs : List Value} (hi : bs[i]? = some (b, t, cs)) {vs : List Value} (hl : vs.length = cs.length) : Bxs w0 (bs.set i (b, t, vs)) (stc w b vs 0) := by
  refine ⟨stc_below (h.ge i hi) vs 0 w h.1, fun x hm => ?_, pw_set (f := fun x : Nat × TypeId × List Value => x.1) h.2.2 hi rfl⟩
  obtain ⟨j, hj⟩ := List.getElem?_of_mem hm
  rw [List.getElem?_set] at hj
  split at hj
  · split at hj
    · cases hj
      exact ⟨stc_all (h.get i hi) hl, h.ge i hi⟩
    · cases hj
  · rename_i hn
    have hne := pw_ne (f := fun x : Nat × TypeId × List Value => x.1) h.2.2 hi hj hn
    exact ⟨stc_other (fun e => hne e.symm) vs 0 w (h.2.1 x (List.mem_of_getElem? hj)).1, (h.2.1 x (List.mem_of_getElem? hj)).2⟩
end
end Go.Proofs.YtkaaebjifkbclaaDoor.Md
namespace Go.Proofs.YtkaaebjifkbclaaDoor.Md
open Go Go.RowKit Go.Lib

/-- Boxes and rows. -/
def Bxr (w0 : World) (bs : List (Nat × TypeId × List Value)) (rs : List (Value × List It)) (w : World) : Prop :=
  Bxs w0 bs w ∧ ∀ r ∈ rs, ∃ G, Rw G w r.1 r.2 ∧ ∀ b, G b → (∀ x ∈ bs, x.1 ≠ b) ∧ b < w.heap.size
section
variable {w0 w w' : World} {bs : List (Nat × TypeId × List Value)} {rs : List (Value × List It)}
theorem Bxr.begin (w : World) : Bxr w [] [] w := ⟨Bxs.begin w, fun _ h => (by cases h)⟩
theorem Bxr.step (h : Bxr w0 bs rs w) (hb : Below w.heap.size w w') : Bxr w0 bs rs w' := ⟨h.1.step hb, fun r hm => by
  obtain ⟨G, h1, h2⟩ := h.2 r hm
  exact ⟨G, h1.below hb, fun b hg => ⟨(h2 b hg).1, Nat.lt_of_lt_of_le (h2 b hg).2 hb.size⟩⟩⟩
theorem Bxr.new (h : Bxr w0 bs rs w) (cs : Array Value) (t : TypeId) : Bxr w0 ((w.heap.size, t, cs.toList) :: bs) rs (w.alloc (.cells cs t)) := ⟨h.1.new cs t, fun r hm => by
  obtain ⟨G, h1, h2⟩ := (h.step (abelow w (.cells cs t))).2 r hm
  obtain ⟨G', h3, h4⟩ := h.2 r hm
  refine ⟨G', h3.below (abelow _ _), fun b hg => ⟨fun x hx => ?_, Nat.lt_of_lt_of_le (h4 b hg).2 (abelow w (.cells cs t)).size⟩⟩
  rcases List.mem_cons.1 hx with rfl | hx
  · exact fun e => by have e : w.heap.size = b := e; have := (h4 b hg).2; omega
  · exact (h4 b hg).1 x hx⟩
theorem Bxr.set (h : Bxr w0 bs rs w) (i : Nat) {b : Nat} {t : TypeId} {cs : List Value} (hi : bs[i]? = some (b, t, cs)) {vs : List Value} (hl : vs.length = cs.length) : Bxr w0 (bs.set i (b, t, vs)) rs (stc w b vs 0) := ⟨h.1.set i hi hl, fun r hm => by
  obtain ⟨G, h1, h2⟩ := h.2 r hm
  have ho := stc_only (b := b) vs 0 w
  refine ⟨G, h1.only ho (fun x hx e => (h2 x hx).1 _ (List.mem_of_getElem? hi) e.symm), fun x hx => ⟨fun y hy => ?_, Nat.lt_of_lt_of_le (h2 x hx).2 ho.size⟩⟩
  rcases List.mem_or_eq_of_mem_set hy with hy | rfl
  · exact (h2 x hx).1 y hy
  · show b ≠ x
    exact (h2 x hx).1 (b, t, cs) (List.mem_of_getElem? hi)⟩
theorem Bxr.call (h : Bxr w0 bs rs w) {v : Value} {l : List It} (hr : Rw (fun b => w.heap.size ≤ b ∧ b < w'.heap.size) w' v l) (hb : Below w.heap.size w w') : Bxr w0 bs ((v, l) :: rs) w' := ⟨h.1.step hb, fun r hm => by
  rcases List.mem_cons.1 hm with rfl | hm
  · refine ⟨_, hr, fun b hg => ⟨fun x hx e => ?_, hg.2⟩⟩
    have := (h.1.2.1 x hx).1.lt
    have := hg.1
    omega
  · exact (h.step hb).2 r hm⟩
theorem Bxr.only (h : Bxr w0 bs rs w) {qs : List (Value × List It)} (hq : ∀ r ∈ qs, r ∈ rs) : Bxr w0 bs qs w := ⟨h.1, fun r hm => h.2 r (hq r hm)⟩
theorem Bxr.its (h : Bxr w0 bs rs w) (i : Nat) {v : Value} {l : List It} (hi : rs[i]? = some (v, l)) : Its w v l := by
  obtain ⟨G, h1, _⟩ := h.2 _ (List.mem_of_getElem? hi)
  exact h1.its
theorem its_none (w : World) : Its w (.slice none 0 0) [] := (rw_nil (fun _ => False) w).its
end
/-- Apply beside boxes and rows. -/
theorem apply_bx {w0 w : World} {bs : List (Nat × TypeId × List Value)} {rs : List (Value × List It)} {s s' : Ms} {a : Option Addr} {n ca N B : Nat} {now : Int} {c : Cm} {most : Int} {A : An} (hB : Bxr w0 bs rs w) (hI : Its w (.slice a n ca) s.its) (hF : Fit N B s) (hN : N ≤ 4194304) (hBd : B ≤ 1048576) (ck : c.Ok) (hv : Nu.Vars w0) (hr : apply s now c most = (s', A)) {cs : Array Value} (hA : A.v = .agg cs) :
    Calls Tryd.prog 17 #[.agg #[.slice a n ca, .int .u64 s.cas, .int .i64 s.fl], .int .i64 now, c.v, .int .i64 most] w fun e w' => ∃ a' n' c', e = .returned (.tuple #[.agg #[.slice a' n' c', .int .u64 s'.cas, .int .i64 s'.fl], .agg cs]) ∧ Bxr w0 bs ((.slice a' n' c', s'.its) :: rs) w' := by
  refine (apply_any (most := most) (now := now) hI hF hN hBd ck (hv.below hB.1.1)).mono ?_
  rw [hr, hA]
  rintro e w' ⟨a', n', c', rfl, h1, h2⟩
  exact ⟨a', n', c', rfl, hB.call h1 h2⟩
end Go.Proofs.YtkaaebjifkbclaaDoor.Md
