/-
  A text of bytes, rows that are stored to, a slice's beginning: of arena's texts, at this program. No conditions.
  One step on both slabs (ambrylaw07.does) at this program, first part: what two slabs in one state are, and what is kept. No conditions.
-/
import Derived.Test.YtldfpacdlephcaaArenaRefD
import Derived.Lib.Strings
import Derived.Test.YtldfpacdlephcaaSlabRefPut
import Derived.Test.YtldfpacdlephcaaSlabRefNew
import Derived.Test.YtldfpacdlephcaaSlabMove
import Derived.BigQuiet
namespace Go.Proofs.Ytldfpacdlephcaa
open Go Go.RowKit Go.Lib

def S (l : List UInt8) : ByteArray := ⟨l.toArray⟩
theorem conv_byts {w : World} {a : Option Addr} {n c : Nat} {l : List UInt8} (h : Byts w (.slice a n c) l) : (convert 39 9 (.slice a n c)).run Try.prog w = .ok (.string (S l)) w := by
  obtain ⟨a', c', e, hx⟩ := h
  cases e
  cases a with
  | none =>
    cases l with
    | nil => exact run_convert_bytes_nil (P := Try.prog) w 39 5 Try.underlying39 Try.underlying5 0 c 9 Try.underlying9
    | cons b l =>
      obtain ⟨g, o, ha, _⟩ := hx 0 b rfl
      cases ha
  | some ad =>
    refine run_convert_bytes_back (P := Try.prog) w 39 9 5 ad c l Try.underlying39 Try.underlying5 Try.underlying9 (fun j hj => ?_)
    obtain ⟨g, o, ha, _, hc⟩ := hx j l[j] (List.getElem?_eq_getElem hj)
    cases ha
    rw [addr_plain]; exact hc
theorem Byts.take {w : World} {a : Option Addr} {n c : Nat} {l : List UInt8} (h : Byts w (.slice a n c) l) {k : Nat} (hk : k ≤ n) : Byts w (.slice a k c) (l.take k) := by
  obtain ⟨a', c', e, hx⟩ := h
  cases e
  refine ⟨a, c, by rw [List.length_take, Nat.min_eq_left hk], fun j b hj => ?_⟩
  rw [List.getElem?_take] at hj
  split at hj
  · exact hx j b hj
  · cases hj
theorem conv_nil (w : World) : (convert 39 9 (.slice none 0 0)).run Try.prog w = .ok (.string (S [])) w :=
  conv_byts ⟨none, 0, rfl, fun j b hj => by simp at hj⟩
theorem conv_row_len {w : World} {base m c : Nat} {a : Option Addr} {l : List UInt8} (hl : l.length = m) (h : w.ownsRow base 5 1 (.slice a m c) m (bc l)) : (convert 39 9 (.slice a m c)).run Try.prog w = .ok (.string (S l)) w := by
  subst hl
  exact conv_byts (byts_row h)
def Slots (w : World) (t : TypeId) (v : Value) (n base : Nat) : Prop := ∃ cs, w.ownsRow base t 1 v n cs
theorem Slots.at {w : World} {t : TypeId} {a : Option Addr} {n c base k : Nat} (h : Slots w t (.slice a n c) n base) (hk : k < n) :
    ∃ g x, a = some ⟨g, 0, none⟩ ∧ w.cell? ⟨g, k, none⟩ = some x ∧ w.frozen? ⟨g, k, none⟩ = false ∧ ∀ u, Slots (w.setCell ⟨g, k, none⟩ u) t (.slice a n c) n base := by
  obtain ⟨cs, ho⟩ := h
  have ho' := ho
  rcases ho.2 with ⟨_, h0⟩ | ⟨g, c', cur, e, hb, _, hnc, _⟩
  · omega
  · cases e
    have hl := ho'.1
    have hkc : k < cs.length := by omega
    refine ⟨g, cs[k], rfl, ?_, ho'.frozenAt k, fun u => ⟨_, (ho'.stored k u).1⟩⟩
    rw [ho'.cellAt k (by omega), List.getElem?_eq_getElem hkc]
theorem slots_drew {w : World} {t : TypeId} {v : Value} {n base : Nat} {p : Addr} {u : Value} (h : Slots (w.setCell p u) t v n base) : Slots (w.drew.setCell p u) t v n base := h
theorem cell_set_ne {w : World} {g k j : Nat} {u v : Value} (h : w.cell? ⟨g, j, none⟩ = some v) (hne : j ≠ k) : (w.drew.setCell ⟨g, k, none⟩ u).cell? ⟨g, j, none⟩ = some v := by
  have hlt := cell_lt h
  unfold World.cell? at h ⊢
  unfold World.setCell
  simp only [Array.getElem?_modify]
  have e : w.drew.heap = w.heap := rfl
  rw [e]
  simp only [if_true]
  cases hh : w.heap[g]? with
  | none => rw [hh] at h; simp at h
  | some o =>
    rw [hh] at h
    cases o with
    | cells c e f => simp at h ⊢; rw [Array.getElem?_setIfInBounds_ne (by omega)]; exact h
    | _ => simp at h
end Go.Proofs.Ytldfpacdlephcaa
namespace Go.Proofs.Ytldfpacdlephcaa
open Go Go.RowKit Go.Lib

def FF (d : Di) (r : Dr) (s : Sl) (b : Nat) : Prop := SFoot d s b ∨ TFoot r s.sz.length b
structure Two7 (d : Di) (r : Dr) (s : Sl) (tk cl : List Nat) (w : World) : Prop where
  ok : s.Ok
  m : MIs d s w
  rm : RM r (rf s tk cl) w
  ag : Ag s tk cl
  apart : ∀ b, SFoot d s b → ¬ TFoot r s.sz.length b
theorem Two7.only {d : Di} {r : Dr} {s : Sl} {tk cl : List Nat} {w w' : World} {D : Nat → Prop} (h : Two7 d r s tk cl w) (ho : Only D w w') (hd : ∀ b, FF d r s b → ¬ D b) : Two7 d r s tk cl w' :=
  ⟨h.ok, h.m.only ho (fun b hb => hd b (.inl hb)), h.rm.only ho (fun b hb => hd b (.inr hb)), h.ag, h.apart⟩
theorem Two7.below {d : Di} {r : Dr} {s : Sl} {tk cl : List Nat} {w w' : World} (h : Two7 d r s tk cl w) (hb : Below w.heap.size w w') : Two7 d r s tk cl w' := h.only (D := fun _ => False) (Below.only hb) (fun _ _ => id)
theorem Two7.drew {d : Di} {r : Dr} {s : Sl} {tk cl : List Nat} {w : World} (h : Two7 d r s tk cl w) : Two7 d r s tk cl w.drew := h.below ⟨rfl, rfl, rfl, Nat.le_refl _, fun _ _ => rfl⟩
theorem Two7.lt {d : Di} {r : Dr} {s : Sl} {tk cl : List Nat} {w : World} (h : Two7 d r s tk cl w) {b : Nat} (hb : FF d r s b) : b < w.heap.size := hb.elim (fun e => h.m.lt e) (fun e => h.rm.lt e)

/-- What a step leaves. -/
def Go7 (d : Di) (r : Dr) (s : Sl) (w w' : World) : Prop := ∃ d' r' s' tk' cl', Two7 d' r' s' tk' cl' w' ∧ d'.P = d.P ∧ r'.P = r.P ∧ (s'.sz.length = s.sz.length ∧ d'.A = d.A ∧ r'.A = r.A ∧ s'.a.size = s.a.size) ∧ (∀ b, FF d' r' s' b → FF d r s b ∨ w.heap.size ≤ b) ∧ Only (FF d r s) w w'
theorem Go7.refl {d : Di} {r : Dr} {s : Sl} {tk cl : List Nat} {w : World} (h : Two7 d r s tk cl w) : Go7 d r s w w := ⟨d, r, s, tk, cl, h, rfl, rfl, ⟨rfl, rfl, rfl, rfl⟩, fun _ h => .inl h, Only.refl _ _⟩
theorem Go7.after {d : Di} {r : Dr} {s : Sl} {w w0 w1 : World} (hb : Below w.heap.size w w0) (h : Go7 d r s w0 w1) : Go7 d r s w w1 := by
  obtain ⟨d', r', s', tk', cl', h1, h2, h3, h4, h5, h6⟩ := h
  exact ⟨d', r', s', tk', cl', h1, h2, h3, h4, fun b hf => (h5 b hf).imp id (Nat.le_trans hb.size), (Below.only hb : Only (FF d r s) w w0).trans h6 (fun _ hx => .inl hx)⟩
theorem Go7.more {d : Di} {r : Dr} {s : Sl} {w w1 w2 : World} {D : Nat → Prop} (h : Go7 d r s w w1) (ho : Only D w1 w2) (hd : ∀ b, D b → w.heap.size ≤ b) (hf : ∀ b, w.heap.size ≤ b → D b → w1.heap.size ≤ b) : Go7 d r s w w2 := by
  obtain ⟨d', r', s', tk', cl', h1, h2, h3, h4, h5, h6⟩ := h
  exact ⟨d', r', s', tk', cl', h1.only ho (fun b hb hD => by have := h1.lt hb; have := hf b (hd b hD) hD; omega), h2, h3, h4, h5, h6.trans ho (fun x hx => .inr (hd x hx))⟩
theorem Go7.below {d : Di} {r : Dr} {s : Sl} {w w1 w2 : World} (h : Go7 d r s w w1) (hb : Below w1.heap.size w1 w2) : Go7 d r s w w2 := h.more (D := fun _ => False) (Below.only hb) (fun _ h => h.elim) (fun _ _ h => h.elim)

theorem RGo.only {r : Dr} {s s1 : Sl} {tk cl : List Nat} {w w1 : World} (h : RGo r s tk cl w s1 w1) : Only (TFoot r s.sz.length) w w1 := by
  obtain ⟨_, _, _, hR, _⟩ := h
  exact hR.only
/-- Behind the first one's call. -/
theorem mid_r {d d1 : Di} {r : Dr} {s s1 : Sl} {tk cl : List Nat} {w w1 : World} (h : Two7 d r s tk cl w) (hS : Stp d s w d1 s1 w1) : RM r (rf s tk cl) w1 := h.rm.only hS.only (fun b hb e => h.apart b e hb)
theorem mid_p {d : Di} {r : Dr} {s s1 : Sl} {tk cl : List Nat} {w w1 : World} (h : Two7 d r s tk cl w) (hG : RGo r s tk cl w s1 w1) : MIs d s w1 := by
  obtain ⟨r1, tk1, cl1, hR, _⟩ := hG
  exact h.m.only hR.only (fun b hb e => h.apart b hb e)
theorem two_pr {d d1 : Di} {r : Dr} {s s1 : Sl} {tk cl : List Nat} {w w1 w2 : World} (h : Two7 d r s tk cl w) (ok1 : s1.Ok) (hS : Stp d s w d1 s1 w1) (hG : RGo r s tk cl w1 s1 w2) : Go7 d r s w w2 := by
  obtain ⟨r1, tk1, cl1, hR, hA⟩ := hG
  have hn : s1.sz.length = s.sz.length := hR.n
  have es : (rf s tk cl).sz.length = s.sz.length := rfl
  have hf := hR.foot
  have ho := hR.only
  rw [es] at hf ho
  have l1 : ∀ b, SFoot d1 s1 b → b < w1.heap.size := fun b hb => hS.m.lt hb
  have lR : ∀ b, TFoot r s.sz.length b → b < w.heap.size := fun b hb => h.rm.lt hb
  have no1 : ∀ b, SFoot d1 s1 b → ¬ TFoot r s.sz.length b := fun b hb e => by
    rcases hS.foot b hb with e2 | e2
    · exact h.apart b e2 e
    · have := lR b e; omega
  refine ⟨d1, r1, s1, tk1, cl1, ⟨ok1, hS.m.only ho no1, hR.m, hA, fun b hb e => ?_⟩, hS.p, hR.p, ⟨hn, hS.aa, hR.aa, hS.az⟩, fun b hb => ?_, ?_⟩
  · rw [hn] at e
    rcases hf b e with e2 | e2
    · exact no1 b hb e2
    · have := l1 b hb; omega
  · rcases hb with e | e
    · exact (hS.foot b e).imp .inl id
    · rw [hn] at e
      exact (hf b e).imp .inr (Nat.le_trans hS.only.size)
  · exact (hS.only.mono (E := FF d r s) (fun b hb => .inl hb)).trans ho (fun b hb => .inl (.inr hb))
theorem two_rp {d d1 : Di} {r : Dr} {s s1 : Sl} {tk cl : List Nat} {w w1 w2 : World} (h : Two7 d r s tk cl w) (ok1 : s1.Ok) (hG : RGo r s tk cl w s1 w1) (hS : Stp d s w1 d1 s1 w2) : Go7 d r s w w2 := by
  obtain ⟨r1, tk1, cl1, hR, hA⟩ := hG
  have hn : s1.sz.length = s.sz.length := hR.n
  have es : (rf s tk cl).sz.length = s.sz.length := rfl
  have hf := hR.foot
  have ho := hR.only
  have hlt : ∀ b, TFoot r1 s.sz.length b → b < w1.heap.size := fun b hb => hR.m.lt (by
    show TFoot r1 s1.sz.length b
    rw [hn]; exact hb)
  rw [es] at hf ho
  have lS : ∀ b, SFoot d s b → b < w.heap.size := fun b hb => h.m.lt hb
  have no1 : ∀ b, TFoot r1 s.sz.length b → ¬ SFoot d s b := fun b hb e => by
    rcases hf b hb with e2 | e2
    · exact h.apart b e e2
    · have := lS b e; omega
  refine ⟨d1, r1, s1, tk1, cl1, ⟨ok1, hS.m, hR.m.only hS.only (fun b hb => no1 b (by
    have hb' : TFoot r1 s1.sz.length b := hb
    rw [hn] at hb'; exact hb')), hA, fun b hb e => ?_⟩, hS.p, hR.p, ⟨hn, hS.aa, hR.aa, hS.az⟩, fun b hb => ?_, ?_⟩
  · rw [hn] at e
    rcases hS.foot b hb with e2 | e2
    · exact no1 b e e2
    · have := hlt b e; omega
  · rcases hb with e | e
    · exact (hS.foot b e).imp .inl (Nat.le_trans ho.size)
    · rw [hn] at e
      exact (hf b e).imp .inr id
  · exact (ho.mono (E := FF d r s) (fun b hb => .inr hb)).trans hS.only (fun b hb => .inl (.inl hb))

/-- What stands behind the cutting of a step's data. -/
def Cut7 (w : World) (F : Nat → Prop) (kd A B : Int) (wx : World) : Prop :=
  ∃ (a : Option Addr) (n c : Nat) (l : List UInt8), n ≤ 2000 ∧ l.length = n ∧ Byts w (.slice a n c) l ∧ (0 < l.length → ∀ g o, a = some ⟨g, o, none⟩ → ¬ F g) ∧
    Blk wx w.heap.size 41 [.int .i64 kd, .int .i64 A, .int .i64 B, .slice a n c] ∧ Below w.heap.size w wx
theorem cut7_same {w : World} {F : Nat → Prop} {kd A B : Int} {a : Option Addr} {n c : Nat} {l : List UInt8} (hn : n ≤ 2000) (hl : l.length = n) (hv : Byts w (.slice a n c) l) (hF : 0 < l.length → ∀ g o, a = some ⟨g, o, none⟩ → ¬ F g) :
    Cut7 w F kd A B (w.alloc (.cells #[.int .i64 kd, .int .i64 A, .int .i64 B, .slice a n c] 41)) :=
  ⟨a, n, c, l, hn, hl, hv, hF, Blk.new w _ _, (Below.refl _ w).alloc (Nat.le_refl _) _⟩
theorem cut7_less {w : World} {F : Nat → Prop} {kd A B : Int} {ad : Addr} {n c : Nat} {l : List UInt8} (hn : 2000 ≤ n) (hl : l.length = n) (hv : Byts w (.slice (some ad) n c) l) (hF : 0 < l.length → ∀ g o, some ad = some ⟨g, o, none⟩ → ¬ F g) :
    Cut7 w F kd A B (w.alloc (.cells #[.int .i64 kd, .int .i64 A, .int .i64 B, .slice (some ad) 2000 c] 41)) :=
  ⟨some ad, 2000, c, l.take 2000, Nat.le_refl _, by rw [List.length_take]; omega, Byts.take hv hn, (fun _ => hF (by omega)), Blk.new w _ _, (Below.refl _ w).alloc (Nat.le_refl _) _⟩
theorem byts_in {w w' : World} {v : Value} {l : List UInt8} (h : Byts w v l) (hb : Below w.heap.size w w') : Byts w' v l := by
  obtain ⟨a, c, rfl, hx⟩ := h
  refine ⟨a, c, rfl, fun j b hj => ?_⟩
  obtain ⟨g, o, rfl, hlt, hc⟩ := hx j b hj
  exact ⟨g, o, rfl, Nat.lt_of_lt_of_le hlt hb.size, (hb.cell (p := ⟨g, o + j, none⟩) hlt).trans hc⟩
end Go.Proofs.Ytldfpacdlephcaa
