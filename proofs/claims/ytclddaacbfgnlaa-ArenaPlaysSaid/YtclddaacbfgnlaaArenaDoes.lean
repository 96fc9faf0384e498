/-
  One step on both arenas (ambrylaw06.does) at this program, first part: what two arenas in one state are, what is kept, and the step Grant. No conditions but that the numbers are an int's.
-/
import Derived.Test.YtclddaacbfgnlaaArenaRefNew
import Derived.Test.YtclddaacbfgnlaaArenaPasses
import Derived.Test.YtclddaacbfgnlaaArenaGrants
import Derived.BigQuiet
namespace Go.Proofs.Ytclddaacbfgnlaa
open Go Go.RowKit Go.Lib

/-- The blocks of an arena and of the document's own answer. -/
structure Ids where
  P : Nat
  O : Nat
  R : Nat
  P' : Nat
  O' : Nat
  B' : Nat
  cO : Nat
  cB : Nat
  bl : Nat → Option Nat

def Foot (d : Ids) (b : Nat) : Prop := b = d.P ∨ b = d.O ∨ b = d.R ∨ RFoot d.P' d.O' d.B' d.bl b

structure Two (d : Ids) (s : St) (w : World) : Prop where
  a : AIs d.P d.O d.R s w
  r : RIs d.P' d.O' d.B' d.cO d.cB d.bl s w
  apart : ∀ b, RFoot d.P' d.O' d.B' d.bl b → b ≠ d.P ∧ b ≠ d.O ∧ b ≠ d.R

theorem Two.only {d : Ids} {s : St} {w w' : World} {D : Nat → Prop} (h : Two d s w) (ho : Only D w w') (hd : ∀ b, Foot d b → ¬ D b) : Two d s w' :=
  ⟨h.a.only ho (hd _ (.inl rfl)) (hd _ (.inr (.inl rfl))) (hd _ (.inr (.inr (.inl rfl)))), h.r.only ho (fun b hb => hd b (.inr (.inr (.inr hb)))), h.apart⟩
theorem Two.below {d : Ids} {s : St} {w w' : World} (h : Two d s w) (hb : Below w.heap.size w w') : Two d s w' := h.only (D := fun _ => False) (Below.only hb) (fun _ _ => id)
theorem Two.lt {d : Ids} {s : St} {w : World} (h : Two d s w) (b : Nat) (hb : Foot d b) : b < w.heap.size := by
  obtain ⟨l1, l2, l3⟩ := h.a.lt
  rcases hb with rfl | rfl | rfl | hb
  · exact l1
  · exact l2
  · exact l3
  · exact h.r.lt b hb

/-- What a step leaves. -/
structure Step (d : Ids) (s : St) (w : World) (d' : Ids) (s' : St) (w' : World) : Prop where
  two : Two d' s' w'
  p : d'.P = d.P
  p' : d'.P' = d.P'
  size : s'.size = s.size
  foot : ∀ b, Foot d' b → Foot d b ∨ w.heap.size ≤ b
  only : Only (Foot d) w w'

theorem Step.refl {d : Ids} {s : St} {w : World} (h : Two d s w) : Step d s w d s w := ⟨h, rfl, rfl, rfl, fun _ hb => .inl hb, Only.refl _ _⟩
theorem Step.after {d d' : Ids} {s s' : St} {w0 w w' : World} (h : Step d s w d' s' w') (hb : Below w0.heap.size w0 w) : Step d s w0 d' s' w' :=
  ⟨h.two, h.p, h.p', h.size, fun b hf => (h.foot b hf).imp id (Nat.le_trans hb.size), (Below.only (D := Foot d) hb).trans h.only (fun _ hx => .inl hx)⟩
theorem Step.before {d d' : Ids} {s s' : St} {w w' w1 : World} (h : Step d s w d' s' w') (hb : Below w'.heap.size w' w1) : Step d s w d' s' w1 :=
  ⟨h.two.below hb, h.p, h.p', h.size, h.foot, h.only.trans (Below.only (D := fun _ => False) hb) (fun _ hx => hx.elim)⟩

theorem turn_foot {d : Ids} {b : Nat} (h : RTurn d.O' d.B' d.bl b) : RFoot d.P' d.O' d.B' d.bl b := by
  rcases h with h | h | h
  · exact .inr (.inl h)
  · exact .inr (.inr (.inl h))
  · exact .inr (.inr (.inr h))

/-- First the arena, then the document's. -/
theorem step_ar {d : Ids} {s s1 : St} {w w1 w2 : World} {bl' : Nat → Option Nat} (h : Two d s w) (hs : s1.size = s.size) (h1 : AIs d.P d.O d.R s1 w1) (o1 : Only (fun b => b = d.O ∨ b = d.R) w w1)
    (h2 : RIs d.P' d.O' d.B' d.cO d.cB bl' s1 w2) (hn : ∀ i b, bl' i = some b → d.bl i = some b ∨ w1.heap.size ≤ b) (o2 : Only (RTurn d.O' d.B' d.bl) w1 w2) : Step d s w { d with bl := bl' } s1 w2 := by
  obtain ⟨l1, l2, l3⟩ := h1.lt
  have hb : ∀ b, RFoot d.P' d.O' d.B' bl' b → RFoot d.P' d.O' d.B' d.bl b ∨ w1.heap.size ≤ b := fun b hb => by
    rcases hb with e | e | e | ⟨i, hi⟩
    · exact .inl (.inl e)
    · exact .inl (.inr (.inl e))
    · exact .inl (.inr (.inr (.inl e)))
    · rcases hn i b hi with e | e
      · exact .inl (.inr (.inr (.inr ⟨i, e⟩)))
      · exact .inr e
  refine ⟨⟨h1.only o2 (fun e => (h.apart _ (turn_foot e)).1 rfl) (fun e => (h.apart _ (turn_foot e)).2.1 rfl) (fun e => (h.apart _ (turn_foot e)).2.2 rfl), h2, fun b hf => ?_⟩, rfl, rfl, hs, fun b hf => ?_, ?_⟩
  · rcases hb b hf with e | e
    · exact h.apart b e
    · exact ⟨by show b ≠ d.P; omega, by show b ≠ d.O; omega, by show b ≠ d.R; omega⟩
  · rcases hf with e | e | e | e
    · exact .inl (.inl e)
    · exact .inl (.inr (.inl e))
    · exact .inl (.inr (.inr (.inl e)))
    · rcases hb b e with e' | e'
      · exact .inl (.inr (.inr (.inr e')))
      · exact .inr (Nat.le_trans o1.size e')
  · refine (o1.mono (E := Foot d) (fun x hx => ?_)).trans o2 (fun x hx => .inl (.inr (.inr (.inr (turn_foot hx)))))
    rcases hx with e | e
    · exact .inr (.inl e)
    · exact .inr (.inr (.inl e))
/-- First the document's, then the arena. -/
theorem step_ra {d : Ids} {s s1 : St} {w w1 w2 : World} (h : Two d s w) (hs : s1.size = s.size) (h1 : RIs d.P' d.O' d.B' d.cO d.cB d.bl s1 w1) (o1 : Only (fun b => b = d.O') w w1)
    (h2 : AIs d.P d.O d.R s1 w2) (o2 : Only (fun b => b = d.O) w1 w2) : Step d s w d s1 w2 := by
  refine ⟨⟨h2, h1.only o2 (fun b hb e => (h.apart b hb).2.1 e), h.apart⟩, rfl, rfl, hs, fun b hf => .inl hf, ?_⟩
  exact (o1.mono (E := Foot d) (fun x hx => .inr (.inr (.inr (.inr (.inl hx)))))).trans o2 (fun x hx => .inl (.inr (.inl hx)))
theorem ref_after {d : Ids} {s : St} {w w1 : World} (h : Two d s w) (o1 : Only (fun b => b = d.O ∨ b = d.R) w w1) : RIs d.P' d.O' d.B' d.cO d.cB d.bl s w1 :=
  h.r.only o1 (fun b hb e => e.elim (h.apart b hb).2.1 (h.apart b hb).2.2)
theorem arena_after {d : Ids} {s : St} {w w1 : World} (h : Two d s w) (o1 : Only (fun b => b = d.O') w w1) : AIs d.P d.O d.R s w1 := by
  have hO : RFoot d.P' d.O' d.B' d.bl d.O' := .inr (.inl rfl)
  obtain ⟨a1, a2, a3⟩ := h.apart _ hO
  exact h.a.only o1 (fun e => a1 e.symm) (fun e => a2 e.symm) (fun e => a3 e.symm)
theorem onlyO {d : Ids} {w w1 : World} (h : Only (fun b => b = d.O) w w1) : Only (fun b => b = d.O ∨ b = d.R) w w1 := h.mono (fun _ hx => .inl hx)
theorem onlyR {d : Ids} {w w1 : World} (h : Only (fun b => b = d.R) w w1) : Only (fun b => b = d.O ∨ b = d.R) w w1 := h.mono (fun _ hx => .inr hx)
theorem onlyO' {d : Ids} {w w1 : World} (h : Only (fun b => b = d.O') w w1) : Only (RTurn d.O' d.B' d.bl) w w1 := h.mono (fun _ hx => .inl hx)
theorem onlyB' {d : Ids} {w w1 : World} (h : Only (fun b => b = d.B') w w1) : Only (RTurn d.O' d.B' d.bl) w w1 := h.mono (fun _ hx => .inr (.inl hx))

/-- What stands behind the cutting of a step's data. -/
def Cut (w : World) (F : Nat → Prop) (kd A B C : Int) (wx : World) : Prop :=
  ∃ (a : Option Addr) (n c : Nat) (l : List UInt8), n ≤ 2000 ∧ l.length = n ∧ Byts w (.slice a n c) l ∧ (0 < l.length → ∀ g o, a = some ⟨g, o, none⟩ → ¬ F g) ∧
    (a = none → c = 0) ∧ Blk wx w.heap.size 34 [.int .i64 kd, .int .i64 A, .int .i64 B, .int .i64 C, .slice a n c] ∧ Below w.heap.size w wx
theorem cut_same {w : World} {F : Nat → Prop} {kd A B C : Int} {a : Option Addr} {n c : Nat} {l : List UInt8} (hn : n ≤ 2000) (hl : l.length = n) (hv : Byts w (.slice a n c) l) (hF : 0 < l.length → ∀ g o, a = some ⟨g, o, none⟩ → ¬ F g) (hnil : a = none → c = 0) :
    Cut w F kd A B C (w.alloc (.cells #[.int .i64 kd, .int .i64 A, .int .i64 B, .int .i64 C, .slice a n c] 34)) :=
  ⟨a, n, c, l, hn, hl, hv, hF, hnil, Blk.new w _ _, (Below.refl _ w).alloc (Nat.le_refl _) _⟩
theorem cut_less {w : World} {F : Nat → Prop} {kd A B C : Int} {ad : Addr} {n c : Nat} {l : List UInt8} (hn : 2000 ≤ n) (hl : l.length = n) (hv : Byts w (.slice (some ad) n c) l) (hF : 0 < l.length → ∀ g o, some ad = some ⟨g, o, none⟩ → ¬ F g) :
    Cut w F kd A B C (w.alloc (.cells #[.int .i64 kd, .int .i64 A, .int .i64 B, .int .i64 C, .slice (some ad) 2000 c] 34)) :=
  ⟨some ad, 2000, c, l.take 2000, Nat.le_refl _, by rw [List.length_take]; omega, Byts.take hv hn, (fun _ => hF (by omega)), (fun e => by cases e), Blk.new w _ _, (Below.refl _ w).alloc (Nat.le_refl _) _⟩

theorem grant_size (s : St) (o : Int) : (s.grant o).2.2.size = s.size := by
  unfold St.grant
  split
  · split <;> rfl
  · rfl
theorem ret_size (s : St) (p : Int) : (s.ret p).2.size = s.size := by
  unfold St.ret
  split <;> rfl
theorem pass_size (s : St) (p o : Int) : (s.pass p o).2.size = s.size := by
  unfold St.pass
  split
  · split <;> rfl
  · rfl
theorem write_size (s : St) (p i : Int) (l : List UInt8) : (s.write p i l).2.size = s.size := by
  unfold St.write
  show (if s.code p i l.length = 0 then s.put p.toNat i.toNat l else s).size = s.size
  split <;> rfl
theorem Two.drew {d : Ids} {s : St} {w : World} (h : Two d s w) : Two d s w.drew := ⟨h.a.drew, h.r.drew, h.apart⟩
theorem byts_nil {w : World} {n c : Nat} {l : List UInt8} (h : Byts w (.slice none n c) l) (hl : l.length = n) : n = 0 := by
  obtain ⟨a', c', e, hx⟩ := h
  cases e
  by_cases h0 : 0 < l.length
  · obtain ⟨g, o, ha, _⟩ := hx 0 l[0] (List.getElem?_eq_getElem h0)
    cases ha
  · omega
theorem byts_cells {w : World} {ad : Addr} {n c : Nat} {l : List UInt8} (h : Byts w (.slice (some ad) n c) l) {j : Nat} {v : Value} (hj : (bc l)[j]? = some v) : w.cell? (ad.add j) = some v := by
  obtain ⟨ad', ha, hx⟩ := Byts.src h (by have := (List.getElem?_eq_some_iff.1 hj).1; rw [bc_len] at this; omega)
  cases ha
  exact hx j v hj
theorem byts_only2 {D : Nat → Prop} {w0 w w' : World} {v : Value} {l : List UInt8} (h0 : Byts w0 v l) (h : Byts w v l) (ho : Only D w w') (hd : ∀ g o n c, v = .slice (some ⟨g, o, none⟩) n c → g < w0.heap.size → ¬ D g) : Byts w' v l := by
  obtain ⟨a, c, rfl, hx⟩ := h
  obtain ⟨a0, c0, e0, hx0⟩ := h0
  cases e0
  refine ⟨a, c, rfl, fun j b hj => ?_⟩
  obtain ⟨g, o, rfl, hlt, hc⟩ := hx j b hj
  obtain ⟨g', o', e', hlt', _⟩ := hx0 j b hj
  cases e'
  exact ⟨g, o, rfl, Nat.lt_of_lt_of_le hlt ho.size, (ho.cell (p := ⟨g, o + j, none⟩) hlt (hd _ _ _ _ rfl hlt')).trans hc⟩
theorem own_cells {w : World} {base gl n cp : Nat} {l : List UInt8} {cl : List Value} (h : w.ownsRow base 5 1 (.slice (some ⟨gl, 0, none⟩) n cp) n cl) (hc : cl = bc l) : ∃ cur, Blk w gl 5 cur ∧ ∀ (j : Nat) b, l[j]? = some b → cur[j]? = some (.int .u8 (b.toNat : Int)) := by
  rcases h.2 with ⟨e, _⟩ | ⟨g, c, cur, e, _, hg, _, _, _, ht⟩
  · cases e
  · cases e
    refine ⟨cur.toList, by unfold Blk; rw [Array.toArray_toList]; exact hg, fun j b hj => ?_⟩
    have h2 := bc_at hj
    rw [← hc, ← ht, List.getElem?_take] at h2
    split at h2
    · exact h2
    · cases h2
theorem byts_at {w : World} {a : Option Addr} {n c : Nat} {l : List UInt8} (h : Byts w (.slice a n c) l) {j : Nat} {b : UInt8} (hj : l[j]? = some b) : ∃ g o, a = some ⟨g, o, none⟩ ∧ g < w.heap.size ∧ w.cell? ⟨g, o + j, none⟩ = some (.int .u8 (b.toNat : Int)) := by
  obtain ⟨a', c', e, hx⟩ := h
  cases e
  exact hx j b hj
theorem Step.more {d d' : Ids} {s s' : St} {w w' w1 : World} {D : Nat → Prop} (h : Step d s w d' s' w') (ho : Only D w' w1) (hf : ∀ b, Foot d' b → ¬ D b) (hd : ∀ b, D b → w.heap.size ≤ b) : Step d s w d' s' w1 :=
  ⟨h.two.only ho hf, h.p, h.p', h.size, h.foot, h.only.trans ho (fun x hx => .inr (hd x hx))⟩
theorem conv_nil (w : World) : (convert 32 9 (.slice none 0 0)).run Try.prog w = .ok (.string (S [])) w :=
  conv_byts ⟨none, 0, rfl, fun j b hj => by simp at hj⟩
theorem foot_new {d : Ids} {w : World} {s : St} (h : Two d s w) {bl' : Nat → Option Nat} {z : Nat} (hn : ∀ i b, bl' i = some b → d.bl i = some b ∨ z ≤ b) : ∀ b, Foot { d with bl := bl' } b → ¬ (w.heap.size ≤ b ∧ b < z) := by
  intro b hf hb
  rcases hf with e | e | e | e
  · have := h.lt b (.inl e); omega
  · have := h.lt b (.inr (.inl e)); omega
  · have := h.lt b (.inr (.inr (.inl e))); omega
  · rcases e with e | e | e | ⟨i, hi⟩
    · have := h.lt b (.inr (.inr (.inr (.inl e)))); omega
    · have := h.lt b (.inr (.inr (.inr (.inr (.inl e))))); omega
    · have := h.lt b (.inr (.inr (.inr (.inr (.inr (.inl e)))))); omega
    · rcases hn i b hi with e | e
      · have := h.lt b (.inr (.inr (.inr (.inr (.inr (.inr ⟨i, e⟩)))))); omega
      · omega
/-- A row of our own, whatever its cells hold: n cells that may be written. -/
def Slots (w : World) (t : TypeId) (v : Value) (n base : Nat) : Prop := ∃ cs, w.ownsRow base t 1 v n cs
theorem Slots.at {w : World} {t : TypeId} {a : Option Addr} {n c base k : Nat} (h : Slots w t (.slice a n c) n base) (hk : k < n) :
    ∃ g x, a = some ⟨g, 0, none⟩ ∧ w.cell? ⟨g, k, none⟩ = some x ∧ w.frozen? ⟨g, k, none⟩ = false ∧ ∀ u, Slots (w.setCell ⟨g, k, none⟩ u) t (.slice a n c) n base := by
  obtain ⟨cs, ho⟩ := h
  have ho' := ho
  rcases ho.2 with ⟨_, h0⟩ | ⟨g, c', cur, e, hb, _, hnc, _⟩
  · omega
  · cases e
    have hl := ho'.1
    have hkc : k < cs.length := by omega
    refine ⟨g, cs[k], rfl, ?_, ho'.frozenAt k, fun u => ⟨_, (ho'.stored k u).1⟩⟩
    rw [ho'.cellAt k (by omega), List.getElem?_eq_getElem hkc]
theorem own_only {w w' : World} {base : Nat} {t : TypeId} {v : Value} {n : Nat} {xs : List Value} {D : Nat → Prop} (h : w.ownsRow base t 1 v n xs) (ho : Only D w w') (hd : ∀ g, v.ownBlock = some g → ¬ D g) : w'.ownsRow base t 1 v n xs := by
  refine ⟨h.1, ?_⟩
  rcases h.2 with hn | ⟨g, cap, cur, rfl, hb, hg, rest⟩
  · exact .inl hn
  · exact .inr ⟨g, cap, cur, rfl, hb, (ho.block g (Array.getElem?_eq_some_iff.1 hg).1 (hd g rfl)).trans hg, rest⟩
theorem conv_row_len {w : World} {base m c : Nat} {a : Option Addr} {l : List UInt8} (hl : l.length = m) (h : w.ownsRow base 5 1 (.slice a m c) m (bc l)) : (convert 32 9 (.slice a m c)).run Try.prog w = .ok (.string (S l)) w := by
  subst hl
  exact conv_byts (byts_row h)
theorem drewn_below {B : Nat} {w w' : World} (h : Below B w w') (n : Nat) : Below B w (w'.drewN n) := ⟨h.os, h.tape, h.output, h.size, h.block⟩
theorem row_ints {w : World} {base L c : Nat} {a : Option Addr} {zs : List Int} (hL : zs.length = L) (h : w.ownsRow base 3 1 (.slice a L c) L (ic zs)) :
    ∀ (j : Nat) z, zs[j]? = some z → ∃ b, a = some ⟨b, 0, none⟩ ∧ base ≤ b ∧ b < w.heap.size ∧ w.cell? ⟨b, j, none⟩ = some (.int .i64 z) := by
  intro j z hj
  have hlt := h.lt
  have hcs := @World.ownsRow.cells _ _ _ _ _ _ _ h
  rcases h.2 with ⟨e, h0⟩ | ⟨g, cap, cur, e, hb, hg, hcap, _⟩
  · rw [List.eq_nil_of_length_eq_zero (hL.trans h0)] at hj; simp at hj
  · cases e
    refine ⟨g, rfl, (hlt g rfl).1, (hlt g rfl).2, ?_⟩
    have := hcs rfl j _ (ic_at hj)
    rw [addr_plain, Nat.zero_add] at this; exact this
theorem slots_drew {w : World} {t : TypeId} {v : Value} {n base : Nat} {p : Addr} {u : Value} (h : Slots (w.setCell p u) t v n base) : Slots (w.drew.setCell p u) t v n base := h
theorem cell_set_ne {w : World} {g k j : Nat} {u v : Value} (h : w.cell? ⟨g, j, none⟩ = some v) (hne : j ≠ k) : (w.drew.setCell ⟨g, k, none⟩ u).cell? ⟨g, j, none⟩ = some v := by
  have hlt := cell_lt h
  unfold World.cell? at h ⊢
  unfold World.setCell
  simp only [Array.getElem?_modify]
  have e : w.drew.heap = w.heap := rfl
  rw [e]
  simp only [if_true]
  cases hh : w.heap[g]? with
  | none => rw [hh] at h; simp at h
  | some o =>
    rw [hh] at h
    cases o with
    | cells c e f => simp at h ⊢; rw [Array.getElem?_setIfInBounds_ne (by omega)]; exact h
    | _ => simp at h
end Go.Proofs.Ytclddaacbfgnlaa
