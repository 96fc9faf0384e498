/-
  The document's own answer for layer 7 (ambryref07): what its slab is in memory, and what may turn. No conditions.
-/
import Derived.Test.YtldfpacdlephcaaM6
import Derived.Test.YtldfpacdlephcaaSlabCounts
import Derived.Test.YtldfpacdlephcaaArenaRefD
namespace Go.Proofs.Ytldfpacdlephcaa
open Go Go.RowKit Go.Lib

/-- Its arena, its sizes, its rows: each class's; behind them the used chunks; behind these the closed pages. -/
structure Rf where
  a : St
  sz : List Nat
  rows : Nat → List Nat
structure Dr where
  P : Nat
  A : Nat
  O : Nat
  B : Nat
  Z : Nat
  R : Nat
  cO : Nat
  cB : Nat
  cZ : Nat
  bl : Nat → Option Nat
  rv : Nat → Value

structure RM (d : Dr) (f : Rf) (w : World) : Prop where
  ar : RIs d.A d.O d.B d.cO d.cB d.bl f.a w
  head : Blk w d.P 77 [.pointer (some ⟨d.A, 0, none⟩), .slice (some ⟨d.Z, 0, none⟩) f.sz.length d.cZ, .slice (some ⟨d.R, 0, none⟩) f.sz.length f.sz.length, d.rv f.sz.length, d.rv (f.sz.length + 1)]
  szs : ∃ cur, Blk w d.Z 3 cur ∧ ∀ (i z : Nat), f.sz[i]? = some z → cur[i]? = some (.int .i64 (z : Int))
  rws : Blk w d.R 22 (tab d.rv f.sz.length)
  row : ∀ c, c < f.sz.length + 2 → w.ownsRow 0 3 1 (d.rv c) (f.rows c).length (nc (f.rows c))
  rvi : ∀ c c' b, c < f.sz.length + 2 → c' < f.sz.length + 2 → (d.rv c).ownBlock = some b → (d.rv c').ownBlock = some b → c = c'
  rvz : ∀ c, c < f.sz.length + 2 → (d.rv c).ownBlock ≠ some d.Z ∧ (d.rv c).ownBlock ≠ some d.O
  zo : d.Z ≠ d.O

def TFoot (d : Dr) (n b : Nat) : Prop := b = d.P ∨ b = d.Z ∨ b = d.R ∨ RFoot d.A d.O d.B d.bl b ∨ ∃ c, c < n + 2 ∧ (d.rv c).ownBlock = some b
theorem tfoot_row {d : Dr} {n c b : Nat} (hc : c < n + 2) (h : (d.rv c).ownBlock = some b) : TFoot d n b := .inr (.inr (.inr (.inr ⟨c, hc, h⟩)))
theorem tfoot_ar {d : Dr} {n b : Nat} (h : RFoot d.A d.O d.B d.bl b) : TFoot d n b := .inr (.inr (.inr (.inl h)))

theorem RM.only {d : Dr} {f : Rf} {w w' : World} {D : Nat → Prop} (h : RM d f w) (ho : Only D w w') (hd : ∀ b, TFoot d f.sz.length b → ¬ D b) : RM d f w' := by
  obtain ⟨cur, hz, hx⟩ := h.szs
  exact ⟨h.ar.only ho (fun b hb => hd b (tfoot_ar hb)), h.head.only ho (hd _ (.inl rfl)), ⟨cur, hz.only ho (hd _ (.inr (.inl rfl))), hx⟩, h.rws.only ho (hd _ (.inr (.inr (.inl rfl)))),
    fun c hc => own_only (h.row c hc) ho (fun b hb => hd b (tfoot_row hc hb)), h.rvi, h.rvz, h.zo⟩
theorem RM.below {d : Dr} {f : Rf} {w w' : World} (h : RM d f w) (hb : Below w.heap.size w w') : RM d f w' := h.only (D := fun _ => False) (Below.only hb) (fun _ _ => id)
theorem RM.drew {d : Dr} {f : Rf} {w : World} (h : RM d f w) : RM d f w.drew := h.only (D := fun _ => False) ((Only.refl _ w).drew) (fun _ _ => id)
theorem drewN_below (w : World) (n : Nat) : Below w.heap.size w (w.drewN n) := ⟨rfl, rfl, rfl, Nat.le_refl _, fun _ _ => rfl⟩
theorem RM.drewN {d : Dr} {f : Rf} {w : World} (h : RM d f w) (n : Nat) : RM d f (w.drewN n) := h.below (drewN_below w n)
theorem RIs.blk {P O B cO cB : Nat} {bl : Nat → Option Nat} {s : St} {w : World} (h : RIs P O B cO cB bl s w) {b : Nat} (hb : RFoot P O B bl b) : ∃ t cs, Blk w b t cs ∧ (t = 68 ∨ (t = 3 ∧ b = O) ∨ t = 39 ∨ t = 5) := by
  obtain ⟨c1, hb1, _⟩ := h.own
  obtain ⟨c2, hb2, _⟩ := h.byt
  rcases hb with rfl | rfl | rfl | ⟨i, hi⟩
  · exact ⟨_, _, h.head, .inl rfl⟩
  · exact ⟨_, _, hb1, .inr (.inl ⟨rfl, rfl⟩)⟩
  · exact ⟨_, _, hb2, .inr (.inr (.inl rfl))⟩
  · exact ⟨_, _, h.page i b hi, .inr (.inr (.inr rfl))⟩
theorem RM.lt {d : Dr} {f : Rf} {w : World} (h : RM d f w) {b : Nat} (hb : TFoot d f.sz.length b) : b < w.heap.size := by
  obtain ⟨cur, hz, _⟩ := h.szs
  rcases hb with rfl | rfl | rfl | hb | ⟨c, hc, hb⟩
  · exact h.head.lt
  · exact hz.lt
  · exact h.rws.lt
  · exact h.ar.lt b hb
  · obtain ⟨cs, hB⟩ := own_blk (h.row c hc) hb
    exact hB.lt
/-- The arena's blocks are no others of the slab's. -/
theorem RM.far {d : Dr} {f : Rf} {w : World} (h : RM d f w) {b : Nat} (hb : RFoot d.A d.O d.B d.bl b) : b ≠ d.P ∧ b ≠ d.Z ∧ b ≠ d.R ∧ ∀ c, c < f.sz.length + 2 → (d.rv c).ownBlock ≠ some b := by
  obtain ⟨t, cs, hB, ht⟩ := h.ar.blk hb
  obtain ⟨cur, hz, _⟩ := h.szs
  refine ⟨hB.ne h.head ?_, ?_, hB.ne h.rws ?_, fun c hc e => ?_⟩
  · rcases ht with rfl | ⟨rfl, _⟩ | rfl | rfl <;> decide
  · rcases ht with rfl | ⟨rfl, rfl⟩ | rfl | rfl
    · exact hB.ne hz (by decide)
    · exact h.zo.symm
    · exact hB.ne hz (by decide)
    · exact hB.ne hz (by decide)
  · rcases ht with rfl | ⟨rfl, _⟩ | rfl | rfl <;> decide
  · obtain ⟨cs', hB'⟩ := own_blk (h.row c hc) e
    rcases ht with rfl | ⟨rfl, rfl⟩ | rfl | rfl
    · exact hB.ne hB' (by decide) rfl
    · exact (h.rvz c hc).2 e
    · exact hB.ne hB' (by decide) rfl
    · exact hB.ne hB' (by decide) rfl
/-- A row's block is none of the others. -/
theorem RM.rowNe {d : Dr} {f : Rf} {w : World} (h : RM d f w) {c b : Nat} (hc : c < f.sz.length + 2) (hb : (d.rv c).ownBlock = some b) : b ≠ d.P ∧ b ≠ d.Z ∧ b ≠ d.R ∧ ¬ RFoot d.A d.O d.B d.bl b := by
  obtain ⟨cs, hB⟩ := own_blk (h.row c hc) hb
  exact ⟨hB.ne h.head (by decide), fun e => (h.rvz c hc).1 (by rw [hb, e]), hB.ne h.rws (by decide), fun e => (h.far e).2.2.2 c hc hb⟩

/-- What a call leaves. -/
structure RStp (d : Dr) (f : Rf) (w : World) (d' : Dr) (f' : Rf) (w' : World) : Prop where
  m : RM d' f' w'
  p : d'.P = d.P
  n : f'.sz.length = f.sz.length
  aa : d'.A = d.A
  foot : ∀ b, TFoot d' f.sz.length b → TFoot d f.sz.length b ∨ w.heap.size ≤ b
  only : Only (TFoot d f.sz.length) w w'
theorem RStp.refl {d : Dr} {f : Rf} {w : World} (h : RM d f w) : RStp d f w d f w := ⟨h, rfl, rfl, rfl, fun _ h => .inl h, Only.refl _ _⟩
theorem RStp.trans {d d1 d2 : Dr} {f f1 f2 : Rf} {w w1 w2 : World} (h : RStp d f w d1 f1 w1) (k : RStp d1 f1 w1 d2 f2 w2) : RStp d f w d2 f2 w2 := by
  have kf := k.foot
  have ko := k.only
  rw [h.n] at kf ko
  exact ⟨k.m, k.p.trans h.p, k.n.trans h.n, k.aa.trans h.aa, fun b hb => (kf b hb).elim (fun e => h.foot b e) (fun e => .inr (Nat.le_trans h.only.size e)), h.only.trans ko (fun x hx => h.foot x hx)⟩
theorem RStp.more {d d1 : Dr} {f f1 : Rf} {w w1 w2 : World} (h : RStp d f w d1 f1 w1) (hb : Below w1.heap.size w1 w2) : RStp d f w d1 f1 w2 :=
  ⟨h.m.below hb, h.p, h.n, h.aa, h.foot, h.only.trans (Below.only (D := fun _ => False) hb) (fun _ hx => hx.elim)⟩
theorem RStp.after {d d1 : Dr} {f f1 : Rf} {w w0 w1 : World} (hb : Below w.heap.size w w0) (h : RStp d f w0 d1 f1 w1) : RStp d f w d1 f1 w1 :=
  ⟨h.m, h.p, h.n, h.aa, fun b hf => (h.foot b hf).imp id (Nat.le_trans hb.size), (Below.only hb : Only (TFoot d f.sz.length) w w0).trans h.only (fun _ hx => .inl hx)⟩
theorem RStp.drew {d d1 : Dr} {f f1 : Rf} {w w1 : World} (h : RStp d f w d1 f1 w1) : RStp d f w d1 f1 w1.drew := h.more ⟨rfl, rfl, rfl, Nat.le_refl _, fun _ _ => rfl⟩

/-- The arena has turned. -/
theorem RStp.arena {d : Dr} {f : Rf} {w w' : World} (h : RM d f w) {a' : St} {bl' : Nat → Option Nat} (ha : RIs d.A d.O d.B d.cO d.cB bl' a' w') (hn : ∀ i b, bl' i = some b → d.bl i = some b ∨ w.heap.size ≤ b) (ho : Only (RTurn d.O d.B d.bl) w w') :
    RStp d f w { d with bl := bl' } { f with a := a' } w' := by
  have hT : ∀ b, RTurn d.O d.B d.bl b → RFoot d.A d.O d.B d.bl b := fun b hb => by
    rcases hb with e | e | e
    · exact .inr (.inl e)
    · exact .inr (.inr (.inl e))
    · exact .inr (.inr (.inr e))
  obtain ⟨cur, hz, hx⟩ := h.szs
  refine ⟨⟨ha, h.head.only ho (fun e => (h.far (hT _ e)).1 rfl), ⟨cur, hz.only ho (fun e => (h.far (hT _ e)).2.1 rfl), hx⟩, h.rws.only ho (fun e => (h.far (hT _ e)).2.2.1 rfl),
    fun c hc => own_only (h.row c hc) ho (fun b hb e => (h.far (hT _ e)).2.2.2 c hc hb), h.rvi, h.rvz, h.zo⟩, rfl, rfl, rfl, fun b hb => ?_, ho.mono (fun b hb => tfoot_ar (hT b hb))⟩
  rcases hb with e | e | e | e | e
  · exact .inl (.inl e)
  · exact .inl (.inr (.inl e))
  · exact .inl (.inr (.inr (.inl e)))
  · rcases e with e | e | e | ⟨i, e⟩
    · exact .inl (tfoot_ar (.inl e))
    · exact .inl (tfoot_ar (.inr (.inl e)))
    · exact .inl (tfoot_ar (.inr (.inr (.inl e))))
    · exact (hn i b e).imp (fun e => tfoot_ar (.inr (.inr (.inr ⟨i, e⟩)))) id
  · exact .inl (.inr (.inr (.inr (.inr e))))

/-- Where a row's slice lies. -/
def rowAt (d : Dr) (n c : Nat) : Addr := if c < n then ⟨d.R, c, none⟩ else ⟨d.P, c - n + 3, none⟩
theorem rowAt_row {d : Dr} {n c : Nat} (h : c < n) : rowAt d n c = ⟨d.R, c, none⟩ := if_pos h
theorem rowAt_taken (d : Dr) (n : Nat) : rowAt d n n = ⟨d.P, 3, none⟩ := by unfold rowAt; rw [if_neg (by omega), Nat.sub_self]
theorem rowAt_closed (d : Dr) (n : Nat) : rowAt d n (n + 1) = ⟨d.P, 4, none⟩ := by unfold rowAt; rw [if_neg (by omega), Nat.add_sub_cancel_left]

/-- A row is another one. -/
theorem RStp.row {d : Dr} {f : Rf} {w w1 : World} (h : RM d f w) {c : Nat} (hc : c < f.sz.length + 2) (v : Value) (l : List Nat) (ho : Only (fun b => (d.rv c).ownBlock = some b) w w1) (hr : w1.ownsRow 0 3 1 v l.length (nc l))
    (hv : ∀ b, v.ownBlock = some b → (d.rv c).ownBlock = some b ∨ w.heap.size ≤ b) : RStp d f w { d with rv := upd d.rv c v } { f with rows := upd f.rows c l } (w1.setCell (rowAt d f.sz.length c) v) := by
  obtain ⟨n, hn⟩ : ∃ n, n = f.sz.length := ⟨_, rfl⟩
  have hpb : (rowAt d f.sz.length c).block = d.R ∨ (rowAt d f.sz.length c).block = d.P := by
    unfold rowAt; split
    · exact .inl rfl
    · exact .inr rfl
  have hne := fun b hb => h.rowNe (b := b) hc hb
  have ho2 : Only (fun b => (d.rv c).ownBlock = some b ∨ b = d.R ∨ b = d.P) w (w1.setCell (rowAt d f.sz.length c) v) := (ho.mono (fun _ hx => .inl hx)).setCell (.inl (.inr hpb)) v
  have hPR : d.P ≠ d.R := h.head.ne h.rws (by decide)
  obtain ⟨cur, hz, hx⟩ := h.szs
  have hzP : d.Z ≠ d.P := hz.ne h.head (by decide)
  have hzR : d.Z ≠ d.R := hz.ne h.rws (by decide)
  have lP := h.head.lt
  have lR := h.rws.lt
  have lZ := hz.lt
  have hvN : ∀ b, v.ownBlock = some b → b ≠ d.R ∧ b ≠ d.P := fun b hb => by
    rcases hv b hb with e | e
    · exact ⟨(hne b e).2.2.1, (hne b e).1⟩
    · exact ⟨by omega, by omega⟩
  refine ⟨⟨?_, ?_, ⟨cur, ?_, hx⟩, ?_, fun c' hc' => ?_, fun c1 c2 b h1 h2 e1 e2 => ?_, fun c' hc' => ?_, h.zo⟩, rfl, rfl, rfl, fun b hb => ?_, ho2.mono (fun b hb => ?_)⟩
  · refine h.ar.only ho2 (fun b hb e => ?_)
    obtain ⟨f1, f2, f3, f4⟩ := h.far hb
    rcases e with e | e | e
    · exact f4 c hc e
    · exact f3 e
    · exact f1 e
  · have h1 : Blk w1 d.P _ _ := h.head.only ho (fun e => (hne _ e).1 rfl)
    show Blk (w1.setCell (rowAt d f.sz.length c) v) d.P _ [.pointer (some ⟨d.A, 0, none⟩), .slice (some ⟨d.Z, 0, none⟩) f.sz.length d.cZ, .slice (some ⟨d.R, 0, none⟩) f.sz.length f.sz.length, upd d.rv c v f.sz.length, upd d.rv c v (f.sz.length + 1)]
    by_cases q : c < f.sz.length
    · rw [rowAt_row q, upd_ne _ _ (by omega), upd_ne _ _ (by omega)]
      exact h1.setOther hPR v
    · by_cases q2 : c = f.sz.length
      · subst q2
        rw [rowAt_taken, upd_same, upd_ne _ _ (by omega)]
        exact h1.set 3 v
      · obtain rfl : c = f.sz.length + 1 := by omega
        rw [rowAt_closed, upd_same, upd_ne _ _ (by omega)]
        exact h1.set 4 v
  · refine hz.only ho2 (fun e => ?_)
    rcases e with e | e | e
    · exact (hne _ e).2.1 rfl
    · exact hzR e
    · exact hzP e
  · have h1 : Blk w1 d.R 22 (tab d.rv f.sz.length) := h.rws.only ho (fun e => (hne _ e).2.2.1 rfl)
    by_cases q : c < f.sz.length
    · rw [rowAt_row q]
      have h2 := h1.set c v
      rw [tab_set] at h2; exact h2
    · show Blk _ d.R _ (tab (upd d.rv c v) f.sz.length)
      rw [show tab (upd d.rv c v) f.sz.length = tab d.rv f.sz.length from tab_same (fun i hi => upd_ne _ _ (by omega))]
      refine h1.setOther ?_ v
      unfold rowAt
      rw [if_neg q]; exact hPR.symm
  · show (w1.setCell (rowAt d f.sz.length c) v).ownsRow 0 _ 1 (upd d.rv c v c') (upd f.rows c l c').length (nc (upd f.rows c l c'))
    by_cases e : c' = c
    · subst e
      rw [upd_same, upd_same]
      exact own_only hr (Only.put (D := fun b => b = d.R ∨ b = d.P) hpb v) (fun b hb e => e.elim (hvN b hb).1 (hvN b hb).2)
    · rw [upd_ne _ _ e, upd_ne _ _ e]
      refine own_only (h.row c' hc') ho2 (fun b hb e2 => ?_)
      rcases e2 with e2 | e2 | e2
      · exact e (h.rvi c' c b hc' hc hb e2)
      · exact (h.rowNe hc' hb).2.2.1 e2
      · exact (h.rowNe hc' hb).1 e2
  · have e1' : (upd d.rv c v c1).ownBlock = some b := e1
    have e2' : (upd d.rv c v c2).ownBlock = some b := e2
    by_cases q1 : c1 = c
    · by_cases q2 : c2 = c
      · rw [q1, q2]
      · rw [q1, upd_same] at e1'
        rw [upd_ne _ _ q2] at e2'
        rcases hv b e1' with e | e
        · exact (q2 (h.rvi c2 c b h2 hc e2' e)).elim
        · have := h.lt (tfoot_row h2 e2'); omega
    · rw [upd_ne _ _ q1] at e1'
      by_cases q2 : c2 = c
      · rw [q2, upd_same] at e2'
        rcases hv b e2' with e | e
        · exact (q1 (h.rvi c1 c b h1 hc e1' e)).elim
        · have := h.lt (tfoot_row h1 e1'); omega
      · rw [upd_ne _ _ q2] at e2'
        exact h.rvi c1 c2 b h1 h2 e1' e2'
  · show (upd d.rv c v c').ownBlock ≠ some d.Z ∧ (upd d.rv c v c').ownBlock ≠ some d.O
    by_cases e : c' = c
    · subst e
      rw [upd_same]
      obtain ⟨c1, hb1, _⟩ := h.ar.own
      have lO := hb1.lt
      refine ⟨fun e => ?_, fun e => ?_⟩
      · rcases hv _ e with e2 | e2
        · exact (h.rvz c' hc').1 e2
        · omega
      · rcases hv _ e with e2 | e2
        · exact (h.rvz c' hc').2 e2
        · omega
    · rw [upd_ne _ _ e]; exact h.rvz c' hc'
  · rcases hb with e | e | e | e | ⟨c', hc', e⟩
    · exact .inl (.inl e)
    · exact .inl (.inr (.inl e))
    · exact .inl (.inr (.inr (.inl e)))
    · exact .inl (tfoot_ar e)
    · have e' : (upd d.rv c v c').ownBlock = some b := e
      by_cases q : c' = c
      · rw [q, upd_same] at e'
        exact (hv b e').imp (fun e => tfoot_row hc e) id
      · rw [upd_ne _ _ q] at e'
        exact .inl (tfoot_row hc' e')
  · rcases hb with e | e | e
    · exact tfoot_row hc e
    · exact .inr (.inr (.inl e))
    · exact .inl e

theorem RM.h0 {d : Dr} {f : Rf} {w : World} (h : RM d f w) : w.cell? ⟨d.P, 0, none⟩ = some (.pointer (some ⟨d.A, 0, none⟩)) := h.head.cell rfl
theorem RM.h1 {d : Dr} {f : Rf} {w : World} (h : RM d f w) : w.cell? ⟨d.P, 1, none⟩ = some (.slice (some ⟨d.Z, 0, none⟩) f.sz.length d.cZ) := h.head.cell rfl
theorem RM.h2 {d : Dr} {f : Rf} {w : World} (h : RM d f w) : w.cell? ⟨d.P, 2, none⟩ = some (.slice (some ⟨d.R, 0, none⟩) f.sz.length f.sz.length) := h.head.cell rfl
theorem RM.h3 {d : Dr} {f : Rf} {w : World} (h : RM d f w) : w.cell? ⟨d.P, 3, none⟩ = some (d.rv f.sz.length) ∧ w.frozen? ⟨d.P, 3, none⟩ = false := ⟨h.head.cell rfl, h.head.frozen 3⟩
theorem RM.h4 {d : Dr} {f : Rf} {w : World} (h : RM d f w) : w.cell? ⟨d.P, 4, none⟩ = some (d.rv (f.sz.length + 1)) ∧ w.frozen? ⟨d.P, 4, none⟩ = false := ⟨h.head.cell rfl, h.head.frozen 4⟩
theorem RM.hr {d : Dr} {f : Rf} {w : World} (h : RM d f w) {c : Nat} (hc : c < f.sz.length) : w.cell? ⟨d.R, c, none⟩ = some (d.rv c) ∧ w.frozen? ⟨d.R, c, none⟩ = false := ⟨h.rws.cell (tab_at hc), h.rws.frozen c⟩
theorem RM.hz {d : Dr} {f : Rf} {w : World} (h : RM d f w) {c z : Nat} (hc : f.sz[c]? = some z) : w.cell? ⟨d.Z, c, none⟩ = some (.int .i64 (z : Int)) := by
  obtain ⟨cur, hb, hx⟩ := h.szs
  exact hb.cell (hx c z hc)
theorem RM.ha {d : Dr} {f : Rf} {w : World} (h : RM d f w) : w.cell? ⟨d.A, 0, none⟩ = some (.int .i64 (f.a.size : Int)) := h.ar.head.cell rfl
theorem RM.sizes {d : Dr} {f : Rf} {w : World} (h : RM d f w) : Sz.Ints w (.slice (some ⟨d.Z, 0, none⟩) (Sz.ints f.sz).length d.cZ) (Sz.ints f.sz) := by
  refine ⟨some ⟨d.Z, 0, none⟩, d.cZ, rfl, fun j z hj => ⟨d.Z, 0, rfl, h.lt (.inr (.inl rfl)), ?_⟩⟩
  unfold Sz.ints at hj
  rw [List.getElem?_map] at hj
  obtain ⟨x, hx, rfl⟩ := Option.map_eq_some_iff.1 hj
  rw [Nat.zero_add]; exact h.hz hx

/-! A slab, as the document's answer has it -/
def rf (s : Sl) (tk cl : List Nat) : Rf := { a := s.a, sz := s.sz, rows := fun i => if i < s.sz.length then s.rows i else if i = s.sz.length then tk else cl }
theorem rf_row {s : Sl} {tk cl : List Nat} {c : Nat} (h : c < s.sz.length) : (rf s tk cl).rows c = s.rows c := if_pos h
theorem rf_tk (s : Sl) (tk cl : List Nat) : (rf s tk cl).rows s.sz.length = tk := by
  show (if _ < _ then _ else _) = _
  rw [if_neg (Nat.lt_irrefl _), if_pos rfl]
theorem rf_cl (s : Sl) (tk cl : List Nat) : (rf s tk cl).rows (s.sz.length + 1) = cl := by
  show (if _ < _ then _ else _) = _
  rw [if_neg (by omega), if_neg (by omega)]
theorem rf_setRow {s : Sl} {tk cl l : List Nat} {c : Nat} (h : c < s.sz.length) : { rf s tk cl with rows := upd (rf s tk cl).rows c l } = rf (s.setRow c l) tk cl := by
  have e : upd (rf s tk cl).rows c l = (rf (s.setRow c l) tk cl).rows := funext fun i => by
    show upd (rf s tk cl).rows c l i = if i < s.sz.length then upd s.rows c l i else if i = s.sz.length then tk else cl
    by_cases q : i = c
    · subst q
      rw [upd_same, upd_same, if_pos h]
    · rw [upd_ne _ _ q, upd_ne _ _ q]; rfl
  rw [e]; rfl
theorem rf_setTk {s : Sl} {tk cl l : List Nat} : { rf s tk cl with rows := upd (rf s tk cl).rows s.sz.length l } = rf s l cl := by
  have e : upd (rf s tk cl).rows s.sz.length l = (rf s l cl).rows := funext fun i => by
    show upd (rf s tk cl).rows s.sz.length l i = if i < s.sz.length then s.rows i else if i = s.sz.length then l else cl
    by_cases q : i = s.sz.length
    · subst q
      rw [upd_same, if_neg (Nat.lt_irrefl _), if_pos rfl]
    · rw [upd_ne _ _ q, if_neg q]
      show (if i < s.sz.length then s.rows i else if i = s.sz.length then tk else cl) = _
      rw [if_neg q]
  rw [e]; rfl
theorem rf_setCl {s : Sl} {tk cl l : List Nat} : ∀ i, i < s.sz.length + 2 → upd (rf s tk cl).rows (s.sz.length + 1) l i = (rf s tk l).rows i := fun i hi => by
  show upd (rf s tk cl).rows (s.sz.length + 1) l i = if i < s.sz.length then s.rows i else if i = s.sz.length then tk else l
  by_cases q : i = s.sz.length + 1
  · subst q
    rw [upd_same, if_neg (by omega), if_neg (by omega)]
  · rw [upd_ne _ _ q]
    show (if i < s.sz.length then s.rows i else if i = s.sz.length then tk else cl) = _
    by_cases q2 : i < s.sz.length
    · rw [if_pos q2, if_pos q2]
    · rw [if_neg q2, if_neg q2, if_pos (by omega), if_pos (by omega)]
/-- Rows that are the same, as far as there are any. -/
theorem RM.rows {d : Dr} {f : Rf} {w : World} (h : RM d f w) {r : Nat → List Nat} (hr : ∀ i, i < f.sz.length + 2 → f.rows i = r i) : RM d { f with rows := r } w :=
  ⟨h.ar, h.head, h.szs, h.rws, fun c hc => by have := h.row c hc; rw [hr c hc] at this; exact this, h.rvi, h.rvz, h.zo⟩
theorem RStp.rows {d d' : Dr} {f f' : Rf} {w w' : World} (h : RStp d f w d' f' w') {r : Nat → List Nat} (hr : ∀ i, i < f'.sz.length + 2 → f'.rows i = r i) : RStp d f w d' { f' with rows := r } w' :=
  ⟨h.m.rows hr, h.p, h.n, h.aa, h.foot, h.only⟩

/-- What the used chunks and the closed pages are. -/
structure Ag (s : Sl) (tk cl : List Nat) : Prop where
  srt : tk.Pairwise (· < ·)
  mem : ∀ x, x ∈ tk ↔ s.usedN x = true
  cls : ∀ p, p ∈ cl ↔ ∃ k, s.cut p = some k ∧ k.closed = true
  cnd : cl.Nodup
theorem Ag.same {s s' : Sl} {tk cl : List Nat} (h : Ag s tk cl) (hu : ∀ x, s'.usedN x = s.usedN x) (hc : ∀ p, (∃ k, s'.cut p = some k ∧ k.closed = true) ↔ ∃ k, s.cut p = some k ∧ k.closed = true) : Ag s' tk cl :=
  ⟨h.srt, fun x => by rw [hu]; exact h.mem x, fun p => (h.cls p).trans (hc p).symm, h.cnd⟩
theorem Ag.tlen {s : Sl} {tk cl : List Nat} (h : Ag s tk cl) (ok : s.Ok) : tk.length ≤ 4194304 :=
  nodup_len 4194304 _ (h.srt.imp (fun h => Nat.ne_of_lt h)) (fun x hx => by
    obtain ⟨k, hk, _⟩ := Sl.usedN_true ((h.mem x).1 hx)
    have := ok.cut_1024 hk
    omega)
theorem Ag.clen {s : Sl} {tk cl : List Nat} (h : Ag s tk cl) (ok : s.Ok) : cl.length ≤ 1024 :=
  nodup_len 1024 _ h.cnd (fun x hx => by
    obtain ⟨k, hk, _⟩ := (h.cls x).1 hx
    exact ok.cut_1024 hk)
end Go.Proofs.Ytldfpacdlephcaa
