/-
  A ghost as one object in memory: what keeps it, what one mark more or less makes of it. No program is run in it. No conditions.
-/
import Derived.Test.YtkhmgigllcgpnaaGhostRing
namespace Go.Proofs.Ytkhmgigllcgpnaa.Gh
open Go Go.RowKit Go.Lib

def idl (l : List Nd) : List Int := l.map Nd.id
def pts (l : List Nd) : List Pt := l.map Nd.pt
theorem pts_app (a b : List Nd) : pts (a ++ b) = pts a ++ pts b := by simp [pts]
theorem pts_cons (x : Nd) (b : List Nd) : pts (x :: b) = x.pt :: pts b := rfl
theorem idl_split (a b : List Nd) (x : Nd) : idl (a ++ x :: b) = idl a ++ x.id :: idl b := by simp [idl]
theorem idl_app (a b : List Nd) : idl (a ++ b) = idl a ++ idl b := by simp [idl]
theorem idl_len (a : List Nd) : (idl a).length = a.length := by simp [idl]
def look (N : List Nd) (z : Int) : Option Nat := (N.find? (fun x => decide (x.id = z))).map Nd.b
theorem inj_id {l : List Nd} (hn : (idl l).Nodup) {x y : Nd} (hx : x ∈ l) (hy : y ∈ l) (e : x.id = y.id) : x = y := by
  induction l with
  | nil => cases hx
  | cons a l ih =>
    rw [idl, List.map_cons, List.nodup_cons] at hn
    rcases List.mem_cons.1 hx with hxa | hx'
    · rcases List.mem_cons.1 hy with hya | hy'
      · rw [hxa, hya]
      · exact (hn.1 (List.mem_map.2 ⟨y, hy', by rw [← e, hxa]⟩)).elim
    · rcases List.mem_cons.1 hy with hya | hy'
      · exact (hn.1 (List.mem_map.2 ⟨x, hx', by rw [e, hya]⟩)).elim
      · exact ih hn.2 hx' hy'
theorem look_iff {N : List Nd} (hn : (idl N).Nodup) {z : Int} {b : Nat} : look N z = some b ↔ ∃ x ∈ N, x.id = z ∧ x.b = b := by
  unfold look
  constructor
  · intro h
    obtain ⟨x, hx, rfl⟩ := Option.map_eq_some_iff.1 h
    exact ⟨x, List.mem_of_find?_eq_some hx, by simpa using List.find?_some hx, rfl⟩
  · rintro ⟨x, hx, rfl, rfl⟩
    cases h : N.find? (fun y => decide (y.id = x.id)) with
    | none => have := List.find?_eq_none.1 h x hx; simp at this
    | some y =>
      have h1 := List.mem_of_find?_eq_some h
      have h2 : y.id = x.id := by simpa using List.find?_some h
      rw [inj_id hn h1 hx h2]; rfl
theorem look_no {N : List Nd} (hn : (idl N).Nodup) {z : Int} : look N z = none ↔ z ∉ idl N := by
  constructor
  · intro h hm
    obtain ⟨y, hy, e⟩ := List.mem_map.1 hm
    rw [(look_iff hn).2 ⟨y, hy, e, rfl⟩] at h; cases h
  · intro h
    cases e : look N z with
    | none => rfl
    | some c =>
      obtain ⟨x, hx, e1, _⟩ := (look_iff hn).1 e
      exact absurd (List.mem_map.2 ⟨x, hx, e1⟩) h
theorem opt_ext {f g : Int → Option Nat} (h : ∀ z b, f z = some b ↔ g z = some b) : f = g := by
  funext z
  cases e : f z with
  | some b => exact ((h z b).1 e).symm
  | none =>
    cases e2 : g z with
    | none => rfl
    | some b => rw [(h z b).2 e2] at e; cases e
theorem len_mid (a b : List Nd) (x : Nd) : (a ++ x :: b).length = (a ++ b).length + 1 := by simp; omega
theorem mem_mid {a b : List Nd} {x y : Nd} : y ∈ a ++ x :: b ↔ y = x ∨ y ∈ a ++ b := by
  rw [List.mem_append, List.mem_cons, List.mem_append]
  constructor
  · rintro (h | h | h)
    · exact .inr (.inl h)
    · exact .inl h
    · exact .inr (.inr h)
  · rintro (h | h | h)
    · exact .inr (.inl h)
    · exact .inl h
    · exact .inr (.inr h)
theorem look_ins {a b : List Nd} {x : Nd} (hn : (idl (a ++ x :: b)).Nodup) (hn0 : (idl (a ++ b)).Nodup) : look (a ++ x :: b) = updF (look (a ++ b)) x.id (some x.b) := opt_ext (fun z c => by
  rw [look_iff hn]
  by_cases e : z = x.id
  · subst e
    rw [updF_same]
    constructor
    · rintro ⟨y, hy, e1, e2⟩
      rw [inj_id hn hy (mem_mid.2 (.inl rfl)) e1] at e2; rw [e2]
    · intro e1; cases e1
      exact ⟨x, mem_mid.2 (.inl rfl), rfl, rfl⟩
  · rw [updF_other e, look_iff hn0]
    constructor
    · rintro ⟨y, hy, e1, e2⟩
      rcases mem_mid.1 hy with rfl | hy
      · exact absurd e1.symm e
      · exact ⟨y, hy, e1, e2⟩
    · rintro ⟨y, hy, e1⟩
      exact ⟨y, mem_mid.2 (.inr hy), e1⟩)
theorem look_out {a b : List Nd} {x : Nd} (hn : (idl (a ++ x :: b)).Nodup) (hn0 : (idl (a ++ b)).Nodup) : look (a ++ b) = updF (look (a ++ x :: b)) x.id none := opt_ext (fun z c => by
  rw [look_iff hn0]
  by_cases e : z = x.id
  · subst e
    rw [updF_same]
    constructor
    · rintro ⟨y, hy, e1, e2⟩
      rw [idl_split, List.nodup_append, List.nodup_cons] at hn
      obtain ⟨_, ⟨h2, _⟩, h3⟩ := hn
      rcases List.mem_append.1 hy with hy | hy
      · exact absurd e1 (h3 _ (List.mem_map.2 ⟨y, hy, rfl⟩) _ (List.mem_cons_self ..))
      · exact absurd (List.mem_map.2 ⟨y, hy, e1⟩) h2
    · intro e1; cases e1
  · rw [updF_other e, look_iff hn]
    constructor
    · rintro ⟨y, hy, e1⟩
      exact ⟨y, mem_mid.2 (.inr hy), e1⟩
    · rintro ⟨y, hy, e1, e2⟩
      rcases mem_mid.1 hy with rfl | hy
      · exact absurd e1.symm e
      · exact ⟨y, hy, e1, e2⟩)

/-- The numbers N lie at P; m of them there may be. -/
structure GM (P M m : Nat) (N : List Nd) (w : World) : Prop where
  nd : (idl N).Nodup
  rng : ∀ x ∈ N, u64ok x.id
  len : N.length ≤ 4194304
  p0 : ∃ mo : Int, w.cell? ⟨P, 0, none⟩ = some (.int .i64 mo) ∧ mo.toNat = m
  p4 : w.cell? ⟨P, 4, none⟩ = some (.map (some M))
  seq : Seq w (edge P :: pts N ++ [edge P])
  node : ∀ x ∈ N, w.cell? (x.pt.at_ 0) = some (.int .u64 x.id)
  map : PM w M N.length (look N)
  ndb : (N.map Nd.b).Nodup
  PX : P ≠ M
  xs : ∀ x ∈ N, x.b ≠ P ∧ x.b ≠ M
  fP : Plain w P
  fx : ∀ x ∈ N, Plain w x.b
def Ft (P M : Nat) (N : List Nd) (b : Nat) : Prop := b = P ∨ b = M ∨ ∃ x ∈ N, x.b = b
/-- A point of the ring. -/
def Rp (P : Nat) (N : List Nd) (p : Pt) : Prop := p = edge P ∨ ∃ x ∈ N, p = x.pt
theorem Rp.mono {P : Nat} {N N' : List Nd} {p : Pt} (h : Rp P N p) (hs : ∀ x ∈ N, x ∈ N') : Rp P N' p := h.imp id (fun ⟨x, hx, e⟩ => ⟨x, hs x hx, e⟩)
theorem rp_ring {P : Nat} {N : List Nd} {p : Pt} (h : p ∈ edge P :: pts N ++ [edge P]) : Rp P N p := by
  rcases List.mem_append.1 h with h | h
  · rcases List.mem_cons.1 h with rfl | h
    · exact .inl rfl
    · obtain ⟨x, hx, rfl⟩ := List.mem_map.1 h
      exact .inr ⟨x, hx, rfl⟩
  · rw [List.mem_singleton.1 h]; exact .inl rfl
theorem lst_is (P : Nat) (a : List Nd) : Rp P a (lst (edge P) (pts a)) := by
  rcases lst_mem (edge P) (pts a) with h | h
  · exact .inl h
  · obtain ⟨x, hx, hp⟩ := List.mem_map.1 h; exact .inr ⟨x, hx, hp.symm⟩
theorem fst_is (P : Nat) (a : List Nd) : Rp P a (fst (edge P) (pts a)) := by
  rcases fst_mem (edge P) (pts a) with h | h
  · exact .inl h
  · obtain ⟨x, hx, hp⟩ := List.mem_map.1 h; exact .inr ⟨x, hx, hp.symm⟩
theorem GM.lt {P M m : Nat} {N : List Nd} {w : World} (h : GM P M m N w) (b : Nat) (hb : Ft P M N b) : b < w.heap.size := by
  rcases hb with rfl | rfl | ⟨x, hx, rfl⟩
  · exact cell_lt h.p4
  · exact h.map.lt
  · exact cell_lt (h.node x hx)
theorem GM.ft {P M m : Nat} {N : List Nd} {w : World} (_ : GM P M m N w) {p : Pt} (hp : Rp P N p) : Ft P M N p.b := by
  rcases hp with rfl | ⟨x, hx, rfl⟩
  · exact .inl rfl
  · exact .inr (.inr ⟨x, hx, rfl⟩)
theorem GM.own {P M m : Nat} {N : List Nd} {w : World} (h : GM P M m N w) {p : Pt} (hp : Rp P N p) : p.b ≠ M ∧ p.b < w.heap.size ∧ ∀ k, w.frozen? (p.at_ k) = false := by
  refine ⟨?_, h.lt _ (h.ft hp), fun k => ?_⟩
  · rcases hp with rfl | ⟨x, hx, rfl⟩
    · exact h.PX
    · exact (h.xs x hx).2
  · rcases hp with rfl | ⟨x, hx, rfl⟩
    · exact h.fP.frozen (1 + k)
    · exact (h.fx x hx).frozen (0 + k)
theorem GM.off {P M m : Nat} {N : List Nd} {w : World} (h : GM P M m N w) {p q : Pt} (hp : Rp P N p) (hq : Rp P N q) (hb : p.b = q.b) : p.o = q.o := by
  rcases hp with rfl | ⟨x, hx, rfl⟩
  · rcases hq with rfl | ⟨y, hy, rfl⟩
    · rfl
    · exact absurd hb.symm (h.xs y hy).1
  · rcases hq with rfl | ⟨y, hy, rfl⟩
    · exact absurd hb (h.xs x hx).1
    · rfl
theorem GM.only {P M m : Nat} {N : List Nd} {w w' : World} {D : Nat → Prop} (h : GM P M m N w) (ho : Only D w w') (hd : ∀ b, Ft P M N b → ¬ D b) : GM P M m N w' := by
  have hc : ∀ {a : Addr} {v : Value}, w.cell? a = some v → Ft P M N a.block → w'.cell? a = some v := fun {a v} ha hf => (ho.cell (cell_lt ha) (hd _ hf)).trans ha
  have fP : Ft P M N P := .inl rfl
  have fM : Ft P M N M := .inr (.inl rfl)
  have fx : ∀ x ∈ N, Ft P M N x.b := fun x hx => .inr (.inr ⟨x, hx, rfl⟩)
  obtain ⟨mo, q0, q1⟩ := h.p0
  refine ⟨h.nd, h.rng, h.len, ⟨mo, hc q0 fP, q1⟩, hc h.p4 fP, h.seq.frame (fun p hp => ?_) (fun p hp => ?_), fun x hx => hc (h.node x hx) (fx x hx), h.map.keep (ho.block M (h.lt M fM) (hd M fM)), h.ndb, h.PX, h.xs, h.fP.keep (ho.block P (h.lt P fP) (hd P fP)),
    fun x hx => (h.fx x hx).keep (ho.block x.b (h.lt _ (fx x hx)) (hd _ (fx x hx)))⟩
  · have := h.ft (rp_ring ((List.dropLast_sublist _).mem hp))
    exact ho.cell (p := p.at_ 2) (h.lt _ this) (hd _ this)
  · have := h.ft (rp_ring (List.mem_of_mem_tail hp))
    exact ho.cell (p := p.at_ 1) (h.lt _ this) (hd _ this)
theorem GM.below {P M m : Nat} {N : List Nd} {w w' : World} (h : GM P M m N w) (hb : Below w.heap.size w w') : GM P M m N w' := h.only (D := fun _ => False) (Below.only hb) (fun _ _ => id)

/-- The cells that turn when a mark comes in between, or goes out. -/
def Cut (M : Nat) (u v : Pt) (A : Addr) : Prop := A = u.at_ 2 ∨ A = v.at_ 1 ∨ A.block = M
theorem GM.keepPt {P M m : Nat} {N : List Nd} {w w' : World} (h : GM P M m N w) {u v p : Pt} (hs : Same (Cut M u v) w w') (hu : Rp P N u) (hv : Rp P N v) (hp : Rp P N p) (k : Nat) (k2 : k = 2 → p.b ≠ u.b) (k1 : k = 1 → p.b ≠ v.b) : w'.cell? (p.at_ k) = w.cell? (p.at_ k) := by
  refine hs.cell (p.at_ k) (h.own hp).2.1 ?_
  rintro (e | e | e)
  · have e1 : p.b = u.b := congrArg Addr.block e
    have e2 : p.o + k = u.o + 2 := congrArg Addr.off e
    have e3 := h.off hp hu e1
    exact k2 (by omega) e1
  · have e1 : p.b = v.b := congrArg Addr.block e
    have e2 : p.o + k = v.o + 1 := congrArg Addr.off e
    have e3 := h.off hp hv e1
    exact k1 (by omega) e1
  · exact (h.own hp).1 e
theorem GM.keepHd {P M m : Nat} {N : List Nd} {w w' : World} (h : GM P M m N w) {u v : Pt} (hs : Same (Cut M u v) w w') (hu : Rp P N u) (hv : Rp P N v) (k : Nat) (k2 : k ≠ 2) (k3 : k ≠ 3) : w'.cell? ⟨P, k, none⟩ = w.cell? ⟨P, k, none⟩ := by
  refine hs.cell ⟨P, k, none⟩ (h.lt P (.inl rfl)) ?_
  rintro (e | e | e)
  · have e1 : P = u.b := congrArg Addr.block e
    have e2 : k = u.o + 2 := congrArg Addr.off e
    have e3 : 1 = u.o := h.off (.inl rfl) hu e1
    omega
  · have e1 : P = v.b := congrArg Addr.block e
    have e2 : k = v.o + 1 := congrArg Addr.off e
    have e3 : 1 = v.o := h.off (.inl rfl) hv e1
    omega
  · exact h.PX e
theorem GM.apart {P M m : Nat} {N : List Nd} {w : World} (h : GM P M m N w) {a b : List Nd} (hsub : (a ++ b).Sublist N) : Apart (edge P) (pts a) (pts b) := by
  have e : (pts a ++ pts b).map Pt.b = (a ++ b).map Nd.b := by
    rw [← pts_app]; unfold pts; rw [List.map_map]; rfl
  refine ⟨?_⟩
  rw [List.map_cons, List.nodup_cons, e]
  refine ⟨fun hm => ?_, (hsub.map Nd.b).nodup h.ndb⟩
  obtain ⟨y, hy, e1⟩ := List.mem_map.1 hm
  exact (h.xs y (hsub.mem hy)).1 e1
theorem GM.ring {P M m : Nat} {N : List Nd} {w w' : World} (h : GM P M m N w) {a b : List Nd} (hsub : (a ++ b).Sublist N) (hs : Same (Cut M (lst (edge P) (pts a)) (fst (edge P) (pts b))) w w') :
    ∀ p ∈ edge P :: (pts a ++ pts b), (p.b ≠ (lst (edge P) (pts a)).b → w'.cell? (p.at_ 2) = w.cell? (p.at_ 2)) ∧ (p.b ≠ (fst (edge P) (pts b)).b → w'.cell? (p.at_ 1) = w.cell? (p.at_ 1)) := by
  intro p hp
  have hu : Rp P N (lst (edge P) (pts a)) := (lst_is P a).mono (fun x hx => hsub.mem (List.mem_append_left _ hx))
  have hv : Rp P N (fst (edge P) (pts b)) := (fst_is P b).mono (fun x hx => hsub.mem (List.mem_append_right _ hx))
  have hp' : Rp P N p := by
    rcases List.mem_cons.1 hp with rfl | hp
    · exact .inl rfl
    · rw [← pts_app] at hp
      obtain ⟨x, hx, rfl⟩ := List.mem_map.1 hp
      exact .inr ⟨x, hsub.mem hx, rfl⟩
  exact ⟨fun hne => h.keepPt hs hu hv hp' 2 (fun _ => hne) (fun e => by omega), fun hne => h.keepPt hs hu hv hp' 1 (fun e => by omega) (fun _ => hne)⟩

/-- One mark more. -/
theorem GM.ins {P M m : Nat} {a b : List Nd} {w w' : World} (h : GM P M m (a ++ b) w) (x : Nd) (hz : look (a ++ b) x.id = none) (h0 : u64ok x.id) (hx : w.heap.size ≤ x.b) (hlen : (a ++ b).length < 4194304)
    (hs : Same (Cut M (lst (edge P) (pts a)) (fst (edge P) (pts b))) w w')
    (c1 : w'.cell? ((lst (edge P) (pts a)).at_ 2) = some x.pt.v) (c2 : w'.cell? (x.pt.at_ 1) = some (lst (edge P) (pts a)).v) (c3 : w'.cell? (x.pt.at_ 2) = some (fst (edge P) (pts b)).v) (c4 : w'.cell? ((fst (edge P) (pts b)).at_ 1) = some x.pt.v)
    (x0 : w'.cell? (x.pt.at_ 0) = some (.int .u64 x.id))
    (hM : PM w' M ((a ++ b).length + 1) (updF (look (a ++ b)) x.id (some x.b))) (fx : Plain w' x.b) :
    GM P M m (a ++ x :: b) w' := by
  have hu : Rp P (a ++ b) (lst (edge P) (pts a)) := (lst_is P a).mono (fun x hx => List.mem_append_left _ hx)
  have hv : Rp P (a ++ b) (fst (edge P) (pts b)) := (fst_is P b).mono (fun x hx => List.mem_append_right _ hx)
  have hring := h.ring (List.Sublist.refl (a ++ b)) hs
  have hlt : ∀ c, Ft P M (a ++ b) c → c ≠ x.b := fun c hc e => by have := h.lt c hc; omega
  have hzn := (look_no h.nd).1 hz
  have hnd : (idl (a ++ x :: b)).Nodup := by
    have hp : (a ++ x :: b).Perm (x :: (a ++ b)) := List.perm_middle
    have hp2 : (idl (a ++ x :: b)).Perm (x.id :: idl (a ++ b)) := by have := hp.map Nd.id; rwa [List.map_cons] at this
    rw [hp2.nodup_iff, List.nodup_cons]
    exact ⟨hzn, h.nd⟩
  obtain ⟨mo, q0, q1⟩ := h.p0
  refine ⟨hnd, fun y hy => ?_, by rw [len_mid]; omega, ⟨mo, (h.keepHd hs hu hv 0 (by omega) (by omega)).trans q0, q1⟩, (h.keepHd hs hu hv 4 (by omega) (by omega)).trans h.p4, ?_, fun y hy => ?_, ?_, ?_, h.PX, fun y hy => ?_, hs.plain P (h.lt P (.inl rfl)) h.fP, fun y hy => ?_⟩
  · rcases mem_mid.1 hy with rfl | hy
    · exact h0
    · exact h.rng y hy
  · have hseq := h.seq
    rw [pts_app] at hseq
    have := ring_in (x := x.pt) hseq (h.apart (List.Sublist.refl _)) hring c1 c2 c3 c4
    rw [pts_app, pts_cons]; exact this
  · rcases mem_mid.1 hy with rfl | hy
    · exact x0
    · exact (h.keepPt hs hu hv (.inr ⟨y, hy, rfl⟩) 0 (fun e => by omega) (fun e => by omega)).trans (h.node y hy)
  · rw [len_mid, look_ins hnd h.nd]; exact hM
  · have hp : ((a ++ x :: b).map Nd.b).Perm (x.b :: (a ++ b).map Nd.b) := by have := (List.perm_middle (l₁ := a) (l₂ := b) (a := x)).map Nd.b; rwa [List.map_cons] at this
    rw [hp.nodup_iff, List.nodup_cons]
    refine ⟨fun hm => ?_, h.ndb⟩
    obtain ⟨y, hy, e⟩ := List.mem_map.1 hm
    exact hlt y.b (.inr (.inr ⟨y, hy, rfl⟩)) e
  · rcases mem_mid.1 hy with rfl | hy
    · exact ⟨fun e => hlt P (.inl rfl) e.symm, fun e => hlt M (.inr (.inl rfl)) e.symm⟩
    · exact h.xs y hy
  · rcases mem_mid.1 hy with rfl | hy
    · exact fx
    · exact hs.plain y.b (h.lt y.b (.inr (.inr ⟨y, hy, rfl⟩))) (h.fx y hy)
/-- One mark less. -/
theorem GM.out {P M m : Nat} {a b : List Nd} {x : Nd} {w w' : World} (h : GM P M m (a ++ x :: b) w)
    (hs : Same (Cut M (lst (edge P) (pts a)) (fst (edge P) (pts b))) w w')
    (c1 : w'.cell? ((lst (edge P) (pts a)).at_ 2) = some (fst (edge P) (pts b)).v) (c2 : w'.cell? ((fst (edge P) (pts b)).at_ 1) = some (lst (edge P) (pts a)).v)
    (hM : PM w' M (a ++ b).length (updF (look (a ++ x :: b)) x.id none)) :
    GM P M m (a ++ b) w' := by
  have hsub : (a ++ b).Sublist (a ++ x :: b) := (List.Sublist.refl a).append (List.sublist_cons_self x b)
  have hu : Rp P (a ++ x :: b) (lst (edge P) (pts a)) := (lst_is P a).mono (fun y hy => List.mem_append_left _ hy)
  have hv : Rp P (a ++ x :: b) (fst (edge P) (pts b)) := (fst_is P b).mono (fun y hy => List.mem_append_right _ (List.mem_cons_of_mem _ hy))
  have hring := h.ring hsub hs
  have hnd : (idl (a ++ b)).Nodup := (hsub.map Nd.id).nodup h.nd
  obtain ⟨mo, q0, q1⟩ := h.p0
  have hl := h.len
  rw [len_mid] at hl
  refine ⟨hnd, fun y hy => h.rng y (hsub.mem hy), by omega, ⟨mo, (h.keepHd hs hu hv 0 (by omega) (by omega)).trans q0, q1⟩, (h.keepHd hs hu hv 4 (by omega) (by omega)).trans h.p4, ?_, fun y hy => ?_, ?_, (hsub.map Nd.b).nodup h.ndb, h.PX, fun y hy => h.xs y (hsub.mem hy), hs.plain P (h.lt P (.inl rfl)) h.fP, fun y hy => ?_⟩
  · have hseq := h.seq
    rw [pts_app, pts_cons] at hseq
    have := ring_out hseq (h.apart hsub) hring c1 c2
    rw [pts_app]; exact this
  · exact (h.keepPt hs hu hv (.inr ⟨y, hsub.mem hy, rfl⟩) 0 (fun e => by omega) (fun e => by omega)).trans (h.node y (hsub.mem hy))
  · rw [look_out h.nd hnd]; exact hM
  · exact hs.plain y.b (h.lt y.b (.inr (.inr ⟨y, hsub.mem hy, rfl⟩))) (h.fx y (hsub.mem hy))
end Go.Proofs.Ytkhmgigllcgpnaa.Gh
