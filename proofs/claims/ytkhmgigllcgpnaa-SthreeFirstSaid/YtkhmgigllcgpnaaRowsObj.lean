/-
  The rows as one object in memory: what keeps it, what one spot more or less makes of it. No program is run in it. No conditions.
-/
import Derived.Test.YtkhmgigllcgpnaaRowsRing
namespace Go.Proofs.Ytkhmgigllcgpnaa
open Go Go.RowKit Go.Lib

def idl (l : List Nd) : List Int := l.map Nd.id
def ids (N : List (List Nd)) : List (List Int) := N.map idl
def pts (l : List Nd) : List Pt := l.map Nd.pt
theorem ids_flat (N : List (List Nd)) : (ids N).flatten = N.flatten.map Nd.id := by unfold ids; rw [List.map_flatten]; rfl
theorem ids_at {N : List (List Nd)} {i : Nat} {l : List Nd} (h : N[i]? = some l) : (ids N)[i]? = some (idl l) := by simp [ids, h]
theorem ids_set (N : List (List Nd)) (i : Nat) (l : List Nd) : ids (N.set i l) = (ids N).set i (idl l) := by simp [ids, List.map_set]
theorem ids_len (N : List (List Nd)) : (ids N).length = N.length := by simp [ids]
def look (N : List (List Nd)) (z : Int) : Option Nat := (N.flatten.find? (fun x => decide (x.id = z))).map Nd.b
theorem inj_id {l : List Nd} (hn : (l.map Nd.id).Nodup) {x y : Nd} (hx : x ∈ l) (hy : y ∈ l) (e : x.id = y.id) : x = y := by
  induction l with
  | nil => cases hx
  | cons a l ih =>
    rw [List.map_cons, List.nodup_cons] at hn
    rcases List.mem_cons.1 hx with hxa | hx'
    · rcases List.mem_cons.1 hy with hya | hy'
      · rw [hxa, hya]
      · exact (hn.1 (List.mem_map.2 ⟨y, hy', by rw [← e, hxa]⟩)).elim
    · rcases List.mem_cons.1 hy with hya | hy'
      · exact (hn.1 (List.mem_map.2 ⟨x, hx', by rw [e, hya]⟩)).elim
      · exact ih hn.2 hx' hy'
theorem look_iff {N : List (List Nd)} (hn : (N.flatten.map Nd.id).Nodup) {z : Int} {b : Nat} : look N z = some b ↔ ∃ x ∈ N.flatten, x.id = z ∧ x.b = b := by
  unfold look
  constructor
  · intro h
    obtain ⟨x, hx, rfl⟩ := Option.map_eq_some_iff.1 h
    exact ⟨x, List.mem_of_find?_eq_some hx, by simpa using List.find?_some hx, rfl⟩
  · rintro ⟨x, hx, rfl, rfl⟩
    cases h : N.flatten.find? (fun y => decide (y.id = x.id)) with
    | none => have := List.find?_eq_none.1 h x hx; simp at this
    | some y =>
      have h1 := List.mem_of_find?_eq_some h
      have h2 : y.id = x.id := by simpa using List.find?_some h
      rw [inj_id hn h1 hx h2]; rfl
theorem opt_ext {f g : Int → Option Nat} (h : ∀ z b, f z = some b ↔ g z = some b) : f = g := by
  funext z
  cases e : f z with
  | some b => exact ((h z b).1 e).symm
  | none =>
    cases e2 : g z with
    | none => rfl
    | some b => rw [(h z b).2 e2] at e; cases e

structure RowAt (w : World) (O i : Nat) (l : List Nd) : Prop where
  seq : Seq w (edge O i :: pts l ++ [edge O i])
  hd : w.cell? ((edge O i).at_ 0) = some (.int .i64 (-1))
  ct : w.cell? ((edge O i).at_ 4) = some (.int .i64 l.length)
  node : ∀ x ∈ l, w.cell? (x.pt.at_ 0) = some (.int .i64 x.id) ∧ w.cell? (x.pt.at_ 1) = some (.int .i64 i)

/-- The rows N lie at P. -/
structure RM (P O M : Nat) (N : List (List Nd)) (w : World) : Prop where
  good : GoodL (ids N)
  p0 : w.cell? ⟨P, 0, none⟩ = some (.slice (some ⟨O, 0, none⟩) N.length N.length)
  p1 : w.cell? ⟨P, 1, none⟩ = some (.map (some M))
  row : ∀ i l, N[i]? = some l → RowAt w O i l
  map : PM w M N.flatten.length (look N)
  nd : (N.flatten.map Nd.b).Nodup
  PO : P ≠ O
  PX : P ≠ M
  OM : O ≠ M
  xs : ∀ x ∈ N.flatten, x.b ≠ P ∧ x.b ≠ O ∧ x.b ≠ M
  fO : Plain w O
  fx : ∀ x ∈ N.flatten, Plain w x.b
def Ft (P O M : Nat) (N : List (List Nd)) (b : Nat) : Prop := b = P ∨ b = O ∨ b = M ∨ ∃ x ∈ N.flatten, x.b = b

theorem RM.idn {P O M : Nat} {N : List (List Nd)} {w : World} (h : RM P O M N w) : (N.flatten.map Nd.id).Nodup := by rw [← ids_flat]; exact h.good.nd
theorem RM.n1 {P O M : Nat} {N : List (List Nd)} {w : World} (h : RM P O M N w) : 1 ≤ N.length := by rw [← ids_len]; exact h.good.n1
theorem RM.n8 {P O M : Nat} {N : List (List Nd)} {w : World} (h : RM P O M N w) : N.length ≤ 8 := by rw [← ids_len]; exact h.good.n8
theorem RM.len {P O M : Nat} {N : List (List Nd)} {w : World} (h : RM P O M N w) {i : Nat} {l : List Nd} (hi : N[i]? = some l) : l.length ≤ 4194304 := by
  have := h.good.len (ids_at hi)
  rwa [idl, List.length_map] at this
theorem RM.cnt {P O M : Nat} {N : List (List Nd)} {w : World} (h : RM P O M N w) : N.flatten.length ≤ 4194304 := by
  have := h.good.count
  rwa [ids_flat, List.length_map] at this
theorem RM.rng {P O M : Nat} {N : List (List Nd)} {w : World} (h : RM P O M N w) {x : Nd} (hx : x ∈ N.flatten) : 0 ≤ x.id ∧ x.id ≤ 4194303 :=
  h.good.rng _ (by rw [ids_flat]; exact List.mem_map.2 ⟨x, hx, rfl⟩)
theorem RM.at_ {P O M : Nat} {N : List (List Nd)} {w : World} (h : RM P O M N w) {x : Nd} (hx : x ∈ N.flatten) : ∃ i a b, N[i]? = some (a ++ x :: b) ∧ RowAt w O i (a ++ x :: b) := by
  obtain ⟨l, hl, hxl⟩ := List.mem_flatten.1 hx
  obtain ⟨i, hi⟩ := List.mem_iff_getElem?.1 hl
  obtain ⟨a, b, rfl⟩ := List.append_of_mem hxl
  exact ⟨i, a, b, hi, h.row i _ hi⟩
theorem RM.lt {P O M : Nat} {N : List (List Nd)} {w : World} (h : RM P O M N w) (b : Nat) (hb : Ft P O M N b) : b < w.heap.size := by
  rcases hb with rfl | rfl | rfl | ⟨x, hx, rfl⟩
  · exact cell_lt h.p0
  · have h1 := h.n1
    have h2 := h.row 0 _ (List.getElem?_eq_getElem h1)
    exact cell_lt h2.hd
  · exact h.map.lt
  · obtain ⟨i, a, b, _, hr⟩ := h.at_ hx
    exact cell_lt (hr.node x (by simp)).1
theorem RM.only {P O M : Nat} {N : List (List Nd)} {w w' : World} {D : Nat → Prop} (h : RM P O M N w) (ho : Only D w w') (hd : ∀ b, Ft P O M N b → ¬ D b) : RM P O M N w' := by
  have hc : ∀ {a : Addr} {v : Value}, w.cell? a = some v → Ft P O M N a.block → w'.cell? a = some v := fun {a v} ha hf => (ho.cell (cell_lt ha) (hd _ hf)).trans ha
  have fP : Ft P O M N P := .inl rfl
  have fO : Ft P O M N O := .inr (.inl rfl)
  have fM : Ft P O M N M := .inr (.inr (.inl rfl))
  have fx : ∀ x ∈ N.flatten, Ft P O M N x.b := fun x hx => .inr (.inr (.inr ⟨x, hx, rfl⟩))
  refine ⟨h.good, hc h.p0 fP, hc h.p1 fP, fun i l hi => ?_, h.map.keep (ho.block M (h.lt M fM) (hd M fM)), h.nd, h.PO, h.PX, h.OM, h.xs, h.fO.keep (ho.block O (h.lt O fO) (hd O fO)),
    fun x hx => (h.fx x hx).keep (ho.block x.b (h.lt _ (fx x hx)) (hd _ (fx x hx)))⟩
  have hr := h.row i l hi
  have hm : ∀ p ∈ edge O i :: pts l ++ [edge O i], Ft P O M N p.b := by
    intro p hp
    rcases List.mem_append.1 hp with hp | hp
    · rcases List.mem_cons.1 hp with rfl | hp
      · exact fO
      · obtain ⟨x, hx, rfl⟩ := List.mem_map.1 hp
        exact fx x (mem_flat hi hx)
    · rw [List.mem_singleton.1 hp]; exact fO
  refine ⟨hr.seq.frame (fun p hp => ?_) (fun p hp => ?_), hc hr.hd fO, hc hr.ct fO, fun x hx => ⟨hc (hr.node x hx).1 (fx x (mem_flat hi hx)), hc (hr.node x hx).2 (fx x (mem_flat hi hx))⟩⟩
  · have := hm p ((List.dropLast_sublist _).mem hp)
    exact ho.cell (p := p.at_ 3) (h.lt _ this) (hd _ this)
  · have := hm p (List.mem_of_mem_tail hp)
    exact ho.cell (p := p.at_ 2) (h.lt _ this) (hd _ this)
theorem RM.below {P O M : Nat} {N : List (List Nd)} {w w' : World} (h : RM P O M N w) (hb : Below w.heap.size w w') : RM P O M N w' := h.only (D := fun _ => False) (Below.only hb) (fun _ _ => id)

/-- The cells that turn when a spot comes in between, or goes out. -/
def Cut (M : Nat) (e u v : Pt) (A : Addr) : Prop := A = u.at_ 3 ∨ A = v.at_ 2 ∨ A = e.at_ 4 ∨ A.block = M
theorem cut_not {M : Nat} {e u v p : Pt} {k : Nat} (hM : p.b ≠ M) (h1 : p.b = u.b → p.o + k ≠ u.o + 3) (h2 : p.b = v.b → p.o + k ≠ v.o + 2) (h3 : p.b = e.b → p.o + k ≠ e.o + 4) : ¬ Cut M e u v (p.at_ k) := by
  rintro (h | h | h | h)
  · exact h1 (congrArg Addr.block h) (congrArg Addr.off h)
  · exact h2 (congrArg Addr.block h) (congrArg Addr.off h)
  · exact h3 (congrArg Addr.block h) (congrArg Addr.off h)
  · exact hM h
/-- A point is an edge, or a spot. -/
theorem lst_is (e : Pt) (a : List Nd) : lst e (pts a) = e ∨ ∃ x ∈ a, lst e (pts a) = x.pt := by
  rcases lst_mem e (pts a) with h | h
  · exact .inl h
  · obtain ⟨x, hx, hp⟩ := List.mem_map.1 h; exact .inr ⟨x, hx, hp.symm⟩
theorem fst_is (e : Pt) (a : List Nd) : fst e (pts a) = e ∨ ∃ x ∈ a, fst e (pts a) = x.pt := by
  rcases fst_mem e (pts a) with h | h
  · exact .inl h
  · obtain ⟨x, hx, hp⟩ := List.mem_map.1 h; exact .inr ⟨x, hx, hp.symm⟩

/-- What both ways have alike: rows but for the one, and the one's ring's points. -/
structure Near (P O M : Nat) (N : List (List Nd)) (i : Nat) (a b : List Nd) (w w' : World) : Prop where
  own : ∀ y, (y ∈ a ∨ y ∈ b) → y.b ≠ O ∧ y.b ≠ M ∧ y ∈ N.flatten
  dis : ∀ y, (y ∈ a ∨ y ∈ b) → ∀ j m, j ≠ i → N[j]? = some m → ∀ x ∈ m, x.b ≠ y.b
  apart : Apart (edge O i) (pts a) (pts b)
  same : Same (Cut M (edge O i) (lst (edge O i) (pts a)) (fst (edge O i) (pts b))) w w'
theorem Near.head {P O M : Nat} {N : List (List Nd)} {i : Nat} {a b : List Nd} {w w' : World} (g : Near P O M N i a b w w') (h : RM P O M N w) {k : Nat} : w'.cell? ⟨P, k, none⟩ = w.cell? ⟨P, k, none⟩ := by
  have hu := lst_is (edge O i) a
  have hv := fst_is (edge O i) b
  refine g.same.cell ⟨P, k, none⟩ (h.lt P (.inl rfl)) ?_
  rintro (e | e | e | e)
  · have e1 := congrArg Addr.block e
    rcases hu with hu | ⟨x, hx, hu⟩
    · rw [hu] at e1; exact h.PO e1
    · rw [hu] at e1; exact (h.xs x (g.own x (.inl hx)).2.2).1 e1.symm
  · have e1 := congrArg Addr.block e
    rcases hv with hv | ⟨x, hx, hv⟩
    · rw [hv] at e1; exact h.PO e1
    · rw [hv] at e1; exact (h.xs x (g.own x (.inr hx)).2.2).1 e1.symm
  · exact h.PO (congrArg Addr.block e)
  · exact h.PX e
/-- The other rows stay. -/
theorem Near.other {P O M : Nat} {N : List (List Nd)} {i : Nat} {a b : List Nd} {w w' : World} (g : Near P O M N i a b w w') (h : RM P O M N w) {j : Nat} {m : List Nd} (hj : N[j]? = some m) (hij : j ≠ i) : RowAt w' O j m := by
  have hr := h.row j m hj
  have hu := lst_is (edge O i) a
  have hv := fst_is (edge O i) b
  have hO := h.lt O (.inr (.inl rfl))
  have hedge : ∀ k, k < 5 → w'.cell? ((edge O j).at_ k) = w.cell? ((edge O j).at_ k) := fun k hk => g.same.cell _ hO (cut_not h.OM
    (fun e => by
      rcases hu with hu | ⟨x, hx, hu⟩
      · rw [hu]; show j * 5 + k ≠ i * 5 + 3; omega
      · rw [hu] at e; exact absurd e.symm (g.own x (.inl hx)).1)
    (fun e => by
      rcases hv with hv | ⟨x, hx, hv⟩
      · rw [hv]; show j * 5 + k ≠ i * 5 + 2; omega
      · rw [hv] at e; exact absurd e.symm (g.own x (.inr hx)).1)
    (fun _ => by show j * 5 + k ≠ i * 5 + 4; omega))
  have hnode : ∀ x ∈ m, ∀ k, w'.cell? (x.pt.at_ k) = w.cell? (x.pt.at_ k) := fun x hx k => by
    have hxf := mem_flat hj hx
    obtain ⟨_, x2, x3⟩ := h.xs x hxf
    refine g.same.cell _ (h.lt x.b (.inr (.inr (.inr ⟨x, hxf, rfl⟩)))) (cut_not x3 (fun e => ?_) (fun e => ?_) (fun e => absurd e x2))
    · rcases hu with hu | ⟨y, hy, hu⟩
      · rw [hu] at e; exact absurd e x2
      · rw [hu] at e; exact absurd e (g.dis y (.inl hy) j m hij hj x hx)
    · rcases hv with hv | ⟨y, hy, hv⟩
      · rw [hv] at e; exact absurd e x2
      · rw [hv] at e; exact absurd e (g.dis y (.inr hy) j m hij hj x hx)
  have hm : ∀ p ∈ edge O j :: pts m ++ [edge O j], ∀ k, k < 5 → w'.cell? (p.at_ k) = w.cell? (p.at_ k) := by
    intro p hp k hk
    rcases List.mem_append.1 hp with hp | hp
    · rcases List.mem_cons.1 hp with rfl | hp
      · exact hedge k hk
      · obtain ⟨x, hx, rfl⟩ := List.mem_map.1 hp
        exact hnode x hx k
    · rw [List.mem_singleton.1 hp]; exact hedge k hk
  exact ⟨hr.seq.frame (fun p hp => hm p ((List.dropLast_sublist _).mem hp) 3 (by omega)) (fun p hp => hm p (List.mem_of_mem_tail hp) 2 (by omega)), (hedge 0 (by omega)).trans hr.hd, (hedge 4 (by omega)).trans hr.ct,
    fun x hx => ⟨(hnode x hx 0).trans (hr.node x hx).1, (hnode x hx 1).trans (hr.node x hx).2⟩⟩
/-- The one's ring's points. -/
theorem Near.ring {P O M : Nat} {N : List (List Nd)} {i : Nat} {a b : List Nd} {w w' : World} (g : Near P O M N i a b w w') (h : RM P O M N w) :
    (∀ p ∈ edge O i :: (pts a ++ pts b), (p.b ≠ (lst (edge O i) (pts a)).b → w'.cell? (p.at_ 3) = w.cell? (p.at_ 3)) ∧ (p.b ≠ (fst (edge O i) (pts b)).b → w'.cell? (p.at_ 2) = w.cell? (p.at_ 2))) ∧
    w'.cell? ((edge O i).at_ 0) = w.cell? ((edge O i).at_ 0) ∧ (∀ y, (y ∈ a ∨ y ∈ b) → w'.cell? (y.pt.at_ 0) = w.cell? (y.pt.at_ 0) ∧ w'.cell? (y.pt.at_ 1) = w.cell? (y.pt.at_ 1)) := by
  have hu := lst_is (edge O i) a
  have hv := fst_is (edge O i) b
  have hO := h.lt O (.inr (.inl rfl))
  have hpt : ∀ p ∈ edge O i :: (pts a ++ pts b), p = edge O i ∨ ∃ y, (y ∈ a ∨ y ∈ b) ∧ p = y.pt := by
    intro p hp
    rcases List.mem_cons.1 hp with rfl | hp
    · exact .inl rfl
    · rcases List.mem_append.1 hp with hp | hp
      · obtain ⟨y, hy, rfl⟩ := List.mem_map.1 hp; exact .inr ⟨y, .inl hy, rfl⟩
      · obtain ⟨y, hy, rfl⟩ := List.mem_map.1 hp; exact .inr ⟨y, .inr hy, rfl⟩
  have hedge : ∀ k, k < 5 → (k = 3 → lst (edge O i) (pts a) ≠ edge O i) → (k = 2 → fst (edge O i) (pts b) ≠ edge O i) → k ≠ 4 → w'.cell? ((edge O i).at_ k) = w.cell? ((edge O i).at_ k) := fun k hk k3 k2 k4 => g.same.cell _ hO (cut_not h.OM
    (fun e => by
      rcases hu with hu | ⟨x, hx, hu⟩
      · rw [hu]; show i * 5 + k ≠ i * 5 + 3; intro e1; exact k3 (by omega) hu
      · rw [hu] at e; exact absurd e.symm (g.own x (.inl hx)).1)
    (fun e => by
      rcases hv with hv | ⟨x, hx, hv⟩
      · rw [hv]; show i * 5 + k ≠ i * 5 + 2; intro e1; exact k2 (by omega) hv
      · rw [hv] at e; exact absurd e.symm (g.own x (.inr hx)).1)
    (fun _ => by show i * 5 + k ≠ i * 5 + 4; omega))
  have hnode : ∀ y, (y ∈ a ∨ y ∈ b) → ∀ k, (k = 3 → y.b ≠ (lst (edge O i) (pts a)).b) → (k = 2 → y.b ≠ (fst (edge O i) (pts b)).b) → w'.cell? (y.pt.at_ k) = w.cell? (y.pt.at_ k) := fun y hy k k3 k2 => by
    obtain ⟨y1, y2, y3⟩ := g.own y hy
    refine g.same.cell _ (h.lt y.b (.inr (.inr (.inr ⟨y, y3, rfl⟩)))) (cut_not y2 (fun e => ?_) (fun e => ?_) (fun e => absurd e y1))
    · rcases hu with hu | ⟨x, hx, hu⟩
      · rw [hu] at e; exact absurd e y1
      · intro e1
        rw [hu] at e1
        have e2 : 0 + k = 0 + 3 := e1
        exact k3 (by omega) e
    · rcases hv with hv | ⟨x, hx, hv⟩
      · rw [hv] at e; exact absurd e y1
      · intro e1
        rw [hv] at e1
        have e2 : 0 + k = 0 + 2 := e1
        exact k2 (by omega) e
  refine ⟨fun p hp => ?_, hedge 0 (by omega) (fun e => absurd e (by omega)) (fun e => absurd e (by omega)) (by omega), fun y hy => ⟨hnode y hy 0 (fun e => absurd e (by omega)) (fun e => absurd e (by omega)), hnode y hy 1 (fun e => absurd e (by omega)) (fun e => absurd e (by omega))⟩⟩
  rcases hpt p hp with rfl | ⟨y, hy, rfl⟩
  · exact ⟨fun hne => hedge 3 (by omega) (fun _ e => hne (by rw [e])) (fun e => absurd e (by omega)) (by omega), fun hne => hedge 2 (by omega) (fun e => absurd e (by omega)) (fun _ e => hne (by rw [e])) (by omega)⟩
  · exact ⟨fun hne => hnode y hy 3 (fun _ => hne) (fun e => absurd e (by omega)), fun hne => hnode y hy 2 (fun e => absurd e (by omega)) (fun _ => hne)⟩
theorem pts_app (a b : List Nd) : pts (a ++ b) = pts a ++ pts b := by simp [pts]
theorem pts_cons (x : Nd) (b : List Nd) : pts (x :: b) = x.pt :: pts b := rfl
/-- How the two rings' points lie, from the object. -/
theorem RM.near {P O M : Nat} {N : List (List Nd)} {w w' : World} (h : RM P O M N w) {i : Nat} {l a b : List Nd} (hi : N[i]? = some l) (hab : ∀ y, (y ∈ a ∨ y ∈ b) → y ∈ l) (hsub : (a ++ b).Sublist l)
    (hs : Same (Cut M (edge O i) (lst (edge O i) (pts a)) (fst (edge O i) (pts b))) w w') : Near P O M N i a b w w' := by
  have hf := fun y hy => mem_flat hi (hab y hy)
  refine ⟨fun y hy => ⟨(h.xs y (hf y hy)).2.1, (h.xs y (hf y hy)).2.2, hf y hy⟩, fun y hy j m hij hj x hx => ?_, ⟨?_⟩, hs⟩
  · have hnd : ((N.map (fun m => m.map Nd.b)).flatten).Nodup := by
      have := h.nd; rwa [List.map_flatten] at this
    have := (flat_nodup hnd).2 j i (m.map Nd.b) (l.map Nd.b) hij (by simp [hj]) (by simp [hi]) x.b (List.mem_map.2 ⟨x, hx, rfl⟩)
    exact fun e => this (List.mem_map.2 ⟨y, hab y hy, e.symm⟩)
  · have hl : (l.map Nd.b).Nodup := by
      have hnd : ((N.map (fun m => m.map Nd.b)).flatten).Nodup := by
        have := h.nd; rwa [List.map_flatten] at this
      exact (flat_nodup hnd).1 _ (List.mem_map.2 ⟨l, List.mem_of_getElem? hi, rfl⟩)
    have e : (pts a ++ pts b).map Pt.b = (a ++ b).map Nd.b := by
      rw [← pts_app]; unfold pts; rw [List.map_map]; rfl
    rw [List.map_cons, List.nodup_cons, e]
    refine ⟨fun hm => ?_, (hsub.map Nd.b).nodup hl⟩
    obtain ⟨y, hy, e1⟩ := List.mem_map.1 hm
    exact (h.xs y (hf y (List.mem_append.1 hy))).2.1 e1

/-- One spot more. -/
theorem RM.ins {P O M : Nat} {N : List (List Nd)} {w w' : World} (h : RM P O M N w) {i : Nat} {a b : List Nd} (hi : N[i]? = some (a ++ b)) (x : Nd) (hz : look N x.id = none) (h0 : 0 ≤ x.id) (h1 : x.id ≤ 4194303) (hx : w.heap.size ≤ x.b)
    (hs : Same (Cut M (edge O i) (lst (edge O i) (pts a)) (fst (edge O i) (pts b))) w w')
    (c1 : w'.cell? ((lst (edge O i) (pts a)).at_ 3) = some x.pt.v) (c2 : w'.cell? (x.pt.at_ 2) = some (lst (edge O i) (pts a)).v) (c3 : w'.cell? (x.pt.at_ 3) = some (fst (edge O i) (pts b)).v) (c4 : w'.cell? ((fst (edge O i) (pts b)).at_ 2) = some x.pt.v)
    (x0 : w'.cell? (x.pt.at_ 0) = some (.int .i64 x.id)) (x1 : w'.cell? (x.pt.at_ 1) = some (.int .i64 i)) (ct : w'.cell? ((edge O i).at_ 4) = some (.int .i64 ((a ++ b).length + 1 : Nat)))
    (hM : PM w' M (N.flatten.length + 1) (updF (look N) x.id (some x.b))) (fx : Plain w' x.b) :
    RM P O M (N.set i (a ++ x :: b)) w' := by
  have g := h.near hi (fun y hy => List.mem_append.2 hy) (List.Sublist.refl _) hs
  have hr := h.row i _ hi
  have p := flat_ins x hi
  have hil := (List.getElem?_eq_some_iff.1 hi).1
  have hlt : ∀ c, Ft P O M N c → c ≠ x.b := fun c hc e => by have := h.lt c hc; omega
  have hzn : x.id ∉ (ids N).flatten := fun hm => by
    rw [ids_flat] at hm
    obtain ⟨y, hy, e⟩ := List.mem_map.1 hm
    rw [(look_iff h.idn).2 ⟨y, hy, e, rfl⟩] at hz; cases hz
  have hgood : GoodL (ids (N.set i (a ++ x :: b))) := by
    rw [ids_set]
    have e : idl (a ++ x :: b) = idl a ++ x.id :: idl b := by simp [idl]
    rw [e]
    exact h.good.ins (by rw [ids_at hi]; simp [idl]) hzn h0 h1
  have hidn : ((N.set i (a ++ x :: b)).flatten.map Nd.id).Nodup := by rw [← ids_flat]; exact hgood.nd
  have hring := g.ring h
  refine ⟨hgood, ?_, ?_, fun j m hj => ?_, ?_, ?_, h.PO, h.PX, h.OM, fun y hy => ?_, hs.plain O (h.lt O (.inr (.inl rfl))) h.fO, fun y hy => ?_⟩
  · rw [g.head h, List.length_set]; exact h.p0
  · rw [g.head h]; exact h.p1
  · rw [List.getElem?_set] at hj
    split at hj
    · rename_i e
      subst e
      cases hj
      have hseq := hr.seq
      refine ⟨?_, hring.2.1.trans hr.hd, ?_, fun y hy => ?_⟩
      · have := ring_in (x := x.pt) (by rw [pts_app] at hseq; exact hseq) g.apart hring.1 c1 c2 c3 c4
        rw [pts_app, pts_cons]; exact this
      · rw [ct]; simp only [List.length_append, List.length_cons]; rfl
      · rcases List.mem_append.1 hy with hy | hy
        · have hn := hr.node y (List.mem_append_left _ hy)
          exact ⟨(hring.2.2 y (.inl hy)).1.trans hn.1, (hring.2.2 y (.inl hy)).2.trans hn.2⟩
        · rcases List.mem_cons.1 hy with rfl | hy
          · exact ⟨x0, x1⟩
          · have hn := hr.node y (List.mem_append_right _ hy)
            exact ⟨(hring.2.2 y (.inr hy)).1.trans hn.1, (hring.2.2 y (.inr hy)).2.trans hn.2⟩
    · rename_i e
      exact g.other h hj (fun e1 => e e1.symm)
  · rw [p.length_eq, List.length_cons]
    have : look (N.set i (a ++ x :: b)) = updF (look N) x.id (some x.b) := opt_ext (fun z c => by
      rw [look_iff hidn]
      by_cases e : z = x.id
      · subst e
        rw [updF_same]
        constructor
        · rintro ⟨y, hy, e1, e2⟩
          rcases List.mem_cons.1 (p.mem_iff.1 hy) with rfl | hy
          · rw [e2]
          · rw [(look_iff h.idn).2 ⟨y, hy, e1, rfl⟩] at hz; cases hz
        · intro e1; cases e1
          exact ⟨x, p.mem_iff.2 (List.mem_cons_self ..), rfl, rfl⟩
      · rw [updF_other e, look_iff h.idn]
        constructor
        · rintro ⟨y, hy, e1, e2⟩
          rcases List.mem_cons.1 (p.mem_iff.1 hy) with rfl | hy
          · exact absurd e1.symm e
          · exact ⟨y, hy, e1, e2⟩
        · rintro ⟨y, hy, e1⟩
          exact ⟨y, p.mem_iff.2 (List.mem_cons_of_mem _ hy), e1⟩)
    rw [this]; exact hM
  · rw [(p.map Nd.b).nodup_iff, List.map_cons, List.nodup_cons]
    refine ⟨fun hm => ?_, h.nd⟩
    obtain ⟨y, hy, e⟩ := List.mem_map.1 hm
    exact hlt y.b (.inr (.inr (.inr ⟨y, hy, rfl⟩))) e
  · rcases List.mem_cons.1 (p.mem_iff.1 hy) with rfl | hy
    · exact ⟨fun e => hlt P (.inl rfl) e.symm, fun e => hlt O (.inr (.inl rfl)) e.symm, fun e => hlt M (.inr (.inr (.inl rfl))) e.symm⟩
    · exact h.xs y hy
  · rcases List.mem_cons.1 (p.mem_iff.1 hy) with rfl | hy
    · exact fx
    · exact hs.plain y.b (h.lt y.b (.inr (.inr (.inr ⟨y, hy, rfl⟩)))) (h.fx y hy)
/-- One spot less. -/
theorem RM.out {P O M : Nat} {N : List (List Nd)} {w w' : World} (h : RM P O M N w) {i : Nat} {a b : List Nd} {x : Nd} (hi : N[i]? = some (a ++ x :: b))
    (hs : Same (Cut M (edge O i) (lst (edge O i) (pts a)) (fst (edge O i) (pts b))) w w')
    (c1 : w'.cell? ((lst (edge O i) (pts a)).at_ 3) = some (fst (edge O i) (pts b)).v) (c2 : w'.cell? ((fst (edge O i) (pts b)).at_ 2) = some (lst (edge O i) (pts a)).v)
    (ct : w'.cell? ((edge O i).at_ 4) = some (.int .i64 ((a ++ b).length : Nat)))
    (hM : PM w' M (N.set i (a ++ b)).flatten.length (updF (look N) x.id none)) :
    RM P O M (N.set i (a ++ b)) w' := by
  have hab : ∀ y, (y ∈ a ∨ y ∈ b) → y ∈ a ++ x :: b := fun y hy => hy.elim (fun h => List.mem_append_left _ h) (fun h => List.mem_append_right _ (List.mem_cons_of_mem _ h))
  have g := h.near hi hab ((List.Sublist.refl a).append (List.sublist_cons_self x b)) hs
  have hr := h.row i _ hi
  have p := flat_del hi
  have hil := (List.getElem?_eq_some_iff.1 hi).1
  have hsub : (ids (N.set i (a ++ b))).flatten.Sublist (ids N).flatten ∨ True := .inr trivial
  have hidp := p.map Nd.id
  rw [List.map_cons] at hidp
  have hnd0 := hidp.nodup_iff.1 h.idn
  rw [List.nodup_cons] at hnd0
  have hgood : GoodL (ids (N.set i (a ++ b))) := by
    refine ⟨by rw [ids_len, List.length_set]; exact h.n1, by rw [ids_len, List.length_set]; exact h.n8, by rw [ids_flat]; exact hnd0.2, fun z hz => ?_⟩
    rw [ids_flat] at hz
    obtain ⟨y, hy, rfl⟩ := List.mem_map.1 hz
    exact h.rng (p.mem_iff.2 (List.mem_cons_of_mem _ hy))
  have hring := g.ring h
  refine ⟨hgood, ?_, ?_, fun j m hj => ?_, ?_, ?_, h.PO, h.PX, h.OM, fun y hy => h.xs y (p.mem_iff.2 (List.mem_cons_of_mem _ hy)), hs.plain O (h.lt O (.inr (.inl rfl))) h.fO, fun y hy => ?_⟩
  · rw [g.head h, List.length_set]; exact h.p0
  · rw [g.head h]; exact h.p1
  · rw [List.getElem?_set] at hj
    split at hj
    · rename_i e
      subst e
      cases hj
      have hseq := hr.seq
      rw [pts_app, pts_cons] at hseq
      refine ⟨?_, hring.2.1.trans hr.hd, ct, fun y hy => ?_⟩
      · have := ring_out hseq g.apart hring.1 c1 c2
        rw [pts_app]; exact this
      · have hn := hr.node y (hab y (List.mem_append.1 hy))
        exact ⟨(hring.2.2 y (List.mem_append.1 hy)).1.trans hn.1, (hring.2.2 y (List.mem_append.1 hy)).2.trans hn.2⟩
    · rename_i e
      exact g.other h hj (fun e1 => e e1.symm)
  · have : look (N.set i (a ++ b)) = updF (look N) x.id none := opt_ext (fun z c => by
      rw [look_iff hnd0.2]
      by_cases e : z = x.id
      · subst e
        rw [updF_same]
        constructor
        · rintro ⟨y, hy, e1, e2⟩
          exact absurd (List.mem_map.2 ⟨y, hy, e1⟩) hnd0.1
        · intro e1; cases e1
      · rw [updF_other e, look_iff h.idn]
        constructor
        · rintro ⟨y, hy, e1⟩
          exact ⟨y, p.mem_iff.2 (List.mem_cons_of_mem _ hy), e1⟩
        · rintro ⟨y, hy, e1, e2⟩
          rcases List.mem_cons.1 (p.mem_iff.1 hy) with rfl | hy
          · exact absurd e1.symm e
          · exact ⟨y, hy, e1, e2⟩)
    rw [this]; exact hM
  · have := (p.map Nd.b).nodup_iff.1 h.nd
    rw [List.map_cons, List.nodup_cons] at this
    exact this.2
  · have hy' := p.mem_iff.2 (List.mem_cons_of_mem _ hy)
    exact hs.plain y.b (h.lt y.b (.inr (.inr (.inr ⟨y, hy', rfl⟩)))) (h.fx y hy')
end Go.Proofs.Ytkhmgigllcgpnaa
