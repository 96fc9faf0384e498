/-
  What a slab in memory is, at this program: its blocks, what keeps it, what its stores leave. No conditions.
-/
import Derived.Test.YtldfpacdlephcaaSlabMath
namespace Go.Proofs.Ytldfpacdlephcaa
open Go Go.RowKit Go.Lib

/-- The cells of plain numbers, of bools, of a table. -/
def nc (l : List Nat) : List Value := l.map fun (x : Nat) => Value.int .i64 (x : Int)
def bb (l : List Bool) : List Value := l.map Value.bool
def tab (f : Nat → Value) (n : Nat) : List Value := (List.range n).map f
theorem nc_len (l : List Nat) : (nc l).length = l.length := by simp [nc]
theorem nc_at {l : List Nat} {i x : Nat} (h : l[i]? = some x) : (nc l)[i]? = some (.int .i64 (x : Int)) := by simp [nc, h]
theorem nc_app (l : List Nat) (x : Nat) : nc l ++ [Value.int .i64 (x : Int)] = nc (l ++ [x]) := by simp [nc]
theorem nc_ok (l : List Nat) : ∀ u ∈ nc l, u.oneCell' = true := by
  intro u hu; obtain ⟨z, _, rfl⟩ := List.mem_map.1 hu; rfl
theorem bb_len (l : List Bool) : (bb l).length = l.length := by simp [bb]
theorem bb_at {l : List Bool} {i : Nat} {b : Bool} (h : l[i]? = some b) : (bb l)[i]? = some (.bool b) := by simp [bb, h]
theorem bb_set (l : List Bool) (i : Nat) (b : Bool) : bb (l.set i b) = (bb l).set i (.bool b) := by simp [bb, List.map_set]
theorem tab_len (f : Nat → Value) (n : Nat) : (tab f n).length = n := by simp [tab]
theorem tab_at {f : Nat → Value} {n i : Nat} (h : i < n) : (tab f n)[i]? = some (f i) := by simp [tab, h]
theorem tab_set (f : Nat → Value) (n i : Nat) (v : Value) : (tab f n).set i v = tab (upd f i v) n := by
  apply List.ext_getElem
  · simp [tab]
  · intro j h1 h2
    rw [List.getElem_set]
    simp only [tab, List.getElem_map, List.getElem_range, upd]
    by_cases e : i = j
    · rw [if_pos e, if_pos e.symm]
    · rw [if_neg e, if_neg (fun e' => e e'.symm)]
theorem tab_same {f g : Nat → Value} {n : Nat} (h : ∀ i, i < n → f i = g i) : tab f n = tab g n := by
  unfold tab
  exact List.map_congr_left (fun i hi => h i (List.mem_range.1 hi))

theorem own_only {D : Nat → Prop} {w w' : World} {base : Nat} {e : TypeId} {v : Value} {n : Nat} {xs : List Value} (h : w.ownsRow base e 1 v n xs) (ho : Only D w w') (hd : ∀ b, v.ownBlock = some b → ¬ D b) : w'.ownsRow base e 1 v n xs := by
  refine ⟨h.1, ?_⟩
  rcases h.2 with hn | ⟨g, cap, cur, hv, hb, hg, rest⟩
  · exact .inl hn
  · refine .inr ⟨g, cap, cur, hv, hb, ?_, rest⟩
    rw [ho.block g (Array.getElem?_eq_some_iff.1 hg).1 (hd g (by rw [hv]; rfl))]
    exact hg
theorem own_blk {w : World} {base : Nat} {e : TypeId} {v : Value} {n : Nat} {xs : List Value} (h : w.ownsRow base e 1 v n xs) {b : Nat} (hb : v.ownBlock = some b) : ∃ cs, Blk w b e cs := by
  rcases h.2 with ⟨rfl, _⟩ | ⟨g, cap, cur, rfl, _, hg, _⟩
  · simp [Value.ownBlock] at hb
  · obtain rfl : g = b := by simpa [Value.ownBlock] using hb
    exact ⟨cur.toList, by unfold Blk; rw [Array.toArray_toList]; exact hg⟩
/-- The row's cells, read. -/
theorem own_cell {w : World} {base : Nat} {e : TypeId} {v : Value} {l : List Nat} (h : w.ownsRow base e 1 v l.length (nc l)) {i x : Nat} (hi : l[i]? = some x) : ∃ g c, v = .slice (some ⟨g, 0, none⟩) l.length c ∧ l.length ≤ c ∧ w.cell? ⟨g, i, none⟩ = some (.int .i64 (x : Int)) ∧ w.frozen? ⟨g, i, none⟩ = false := by
  have hlt := (List.getElem?_eq_some_iff.1 hi).1
  rcases h.2 with ⟨_, h0⟩ | ⟨g, cap, cur, rfl, _, hg, hn, _, hsz, ht⟩
  · omega
  · have hb : Blk w g e cur.toList := by unfold Blk; rw [Array.toArray_toList]; exact hg
    refine ⟨g, cap, rfl, hn, hb.cell ?_, hb.frozen i⟩
    have h2 := nc_at hi
    rw [← ht, Nat.mul_one, List.getElem?_take, if_pos hlt] at h2
    exact h2
/-- The row, cut by its top. -/
theorem own_pop {w : World} {base : Nat} {e : TypeId} {g c : Nat} {l : List Nat} {x : Nat} (h : w.ownsRow base e 1 (.slice (some ⟨g, 0, none⟩) (l ++ [x]).length c) (l ++ [x]).length (nc (l ++ [x]))) : w.ownsRow base e 1 (.slice (some ⟨g, 0, none⟩) l.length c) l.length (nc l) := by
  refine ⟨by rw [nc_len, Nat.mul_one], ?_⟩
  rcases h.2 with ⟨h1, _⟩ | ⟨g', cap, cur, hv, hb, hg, hn, hm, hsz, ht⟩
  · cases h1
  · cases hv
    refine .inr ⟨g, c, cur, rfl, hb, hg, ?_, hm, hsz, ?_⟩
    · rw [List.length_append] at hn; simp at hn; omega
    · rw [Nat.mul_one] at ht ⊢
      have := congrArg (List.take l.length) ht
      rw [List.take_take, List.length_append, Nat.min_eq_left (by omega)] at this
      rw [this]
      simp [nc]

/-- A slab's blocks. -/
structure Di where
  P : Nat
  A : Nat
  O : Nat
  B : Nat
  Z : Nat
  R : Nat
  C : Nat
  cZ : Nat
  rv : Nat → Value
  cb : Nat → Nat
  ub : Nat → Nat

def cutV (cut : Nat → Option Ct) (cb : Nat → Nat) (p : Nat) : Value := match cut p with | none => .pointer none | some _ => .pointer (some ⟨cb p, 0, none⟩)
theorem cutV_none {cut : Nat → Option Ct} {cb : Nat → Nat} {p : Nat} (h : cut p = none) : cutV cut cb p = .pointer none := by unfold cutV; rw [h]
theorem cutV_some {cut : Nat → Option Ct} {cb : Nat → Nat} {p : Nat} {k : Ct} (h : cut p = some k) : cutV cut cb p = .pointer (some ⟨cb p, 0, none⟩) := by unfold cutV; rw [h]
def ctCells (u U : Nat) (k : Ct) : List Value := [.int .i64 (k.cls : Int), .slice (some ⟨u, 0, none⟩) U U, .int .i64 (tru k.used : Nat), .bool k.closed]

structure MIs (d : Di) (s : Sl) (w : World) : Prop where
  ar : AIs d.A d.O d.B s.a w
  head : Blk w d.P 75 [.pointer (some ⟨d.A, 0, none⟩), .slice (some ⟨d.Z, 0, none⟩) s.sz.length d.cZ, .slice (some ⟨d.R, 0, none⟩) s.sz.length s.sz.length, .slice (some ⟨d.C, 0, none⟩) 1024 1024]
  szs : ∃ cur, Blk w d.Z 3 cur ∧ ∀ (i z : Nat), s.sz[i]? = some z → cur[i]? = some (.int .i64 (z : Int))
  rws : Blk w d.R 22 (tab d.rv s.sz.length)
  row : ∀ c, c < s.sz.length → w.ownsRow 0 3 1 (d.rv c) (s.rows c).length (nc (s.rows c))
  cts : Blk w d.C 78 (tab (cutV s.cut d.cb) 1024)
  cut : ∀ p k, s.cut p = some k → Blk w (d.cb p) 82 (ctCells (d.ub p) s.U k) ∧ Blk w (d.ub p) 4 (bb k.used)
  cbi : ∀ p q k l, s.cut p = some k → s.cut q = some l → d.cb p = d.cb q → p = q
  ubi : ∀ p q k l, s.cut p = some k → s.cut q = some l → d.ub p = d.ub q → p = q
  rvi : ∀ c c' b, c < s.sz.length → c' < s.sz.length → (d.rv c).ownBlock = some b → (d.rv c').ownBlock = some b → c = c'
  rvz : ∀ c, c < s.sz.length → (d.rv c).ownBlock ≠ some d.Z ∧ (d.rv c).ownBlock ≠ some d.O
  zo : d.Z ≠ d.O

def SFoot (d : Di) (s : Sl) (b : Nat) : Prop :=
  b = d.P ∨ b = d.A ∨ b = d.O ∨ b = d.B ∨ b = d.Z ∨ b = d.R ∨ b = d.C ∨ (∃ c, c < s.sz.length ∧ (d.rv c).ownBlock = some b) ∨ ∃ p k, s.cut p = some k ∧ (b = d.cb p ∨ b = d.ub p)
theorem foot_P (d : Di) (s : Sl) : SFoot d s d.P := .inl rfl
theorem foot_A (d : Di) (s : Sl) : SFoot d s d.A := .inr (.inl rfl)
theorem foot_O (d : Di) (s : Sl) : SFoot d s d.O := .inr (.inr (.inl rfl))
theorem foot_B (d : Di) (s : Sl) : SFoot d s d.B := .inr (.inr (.inr (.inl rfl)))
theorem foot_Z (d : Di) (s : Sl) : SFoot d s d.Z := .inr (.inr (.inr (.inr (.inl rfl))))
theorem foot_R (d : Di) (s : Sl) : SFoot d s d.R := .inr (.inr (.inr (.inr (.inr (.inl rfl)))))
theorem foot_C (d : Di) (s : Sl) : SFoot d s d.C := .inr (.inr (.inr (.inr (.inr (.inr (.inl rfl))))))
theorem foot_row {d : Di} {s : Sl} {c b : Nat} (hc : c < s.sz.length) (h : (d.rv c).ownBlock = some b) : SFoot d s b := .inr (.inr (.inr (.inr (.inr (.inr (.inr (.inl ⟨c, hc, h⟩)))))))
theorem foot_cb {d : Di} {s : Sl} {p : Nat} {k : Ct} (h : s.cut p = some k) : SFoot d s (d.cb p) := .inr (.inr (.inr (.inr (.inr (.inr (.inr (.inr ⟨p, k, h, .inl rfl⟩)))))))
theorem foot_ub {d : Di} {s : Sl} {p : Nat} {k : Ct} (h : s.cut p = some k) : SFoot d s (d.ub p) := .inr (.inr (.inr (.inr (.inr (.inr (.inr (.inr ⟨p, k, h, .inr rfl⟩)))))))

theorem MIs.only {d : Di} {s : Sl} {w w' : World} {D : Nat → Prop} (h : MIs d s w) (ho : Only D w w') (hd : ∀ b, SFoot d s b → ¬ D b) : MIs d s w' := by
  obtain ⟨cur, hz, hx⟩ := h.szs
  exact ⟨h.ar.only ho (hd _ (foot_A d s)) (hd _ (foot_O d s)) (hd _ (foot_B d s)), h.head.only ho (hd _ (foot_P d s)), ⟨cur, hz.only ho (hd _ (foot_Z d s)), hx⟩, h.rws.only ho (hd _ (foot_R d s)),
    fun c hc => own_only (h.row c hc) ho (fun b hb => hd b (foot_row hc hb)), h.cts.only ho (hd _ (foot_C d s)),
    fun p k hk => ⟨(h.cut p k hk).1.only ho (hd _ (foot_cb hk)), (h.cut p k hk).2.only ho (hd _ (foot_ub hk))⟩, h.cbi, h.ubi, h.rvi, h.rvz, h.zo⟩
theorem MIs.below {d : Di} {s : Sl} {w w' : World} (h : MIs d s w) (hb : Below w.heap.size w w') : MIs d s w' := h.only (D := fun _ => False) (Below.only hb) (fun _ _ => id)
theorem MIs.drew {d : Di} {s : Sl} {w : World} (h : MIs d s w) : MIs d s w.drew := h.only (D := fun _ => False) ((Only.refl _ w).drew) (fun _ _ => id)
theorem MIs.alloc {d : Di} {s : Sl} {w : World} (h : MIs d s w) (o : Obj) : MIs d s (w.alloc o) := h.only (D := fun _ => False) ((Only.refl _ w).alloc o) (fun _ _ => id)
theorem MIs.blk {d : Di} {s : Sl} {w : World} (h : MIs d s w) {b : Nat} (hb : SFoot d s b) : ∃ t cs, Blk w b t cs := by
  obtain ⟨cur, hz, _⟩ := h.szs
  obtain ⟨cs, hB, _⟩ := h.ar.row
  rcases hb with rfl | rfl | rfl | rfl | rfl | rfl | rfl | ⟨c, hc, hb⟩ | ⟨p, k, hk, rfl | rfl⟩
  · exact ⟨_, _, h.head⟩
  · exact ⟨_, _, h.ar.head⟩
  · exact ⟨_, _, h.ar.own⟩
  · exact ⟨_, _, hB⟩
  · exact ⟨_, _, hz⟩
  · exact ⟨_, _, h.rws⟩
  · exact ⟨_, _, h.cts⟩
  · obtain ⟨cs, hB⟩ := own_blk (h.row c hc) hb
    exact ⟨_, _, hB⟩
  · exact ⟨_, _, (h.cut p k hk).1⟩
  · exact ⟨_, _, (h.cut p k hk).2⟩
theorem MIs.lt {d : Di} {s : Sl} {w : World} (h : MIs d s w) {b : Nat} (hb : SFoot d s b) : b < w.heap.size := by
  obtain ⟨t, cs, hB⟩ := h.blk hb
  exact hB.lt

/-- What a call leaves: the slab, as it is now; no block of others is taken, nor turned. -/
structure Stp (d : Di) (s : Sl) (w : World) (d' : Di) (s' : Sl) (w' : World) : Prop where
  m : MIs d' s' w'
  p : d'.P = d.P
  aa : d'.A = d.A
  az : s'.a.size = s.a.size
  foot : ∀ b, SFoot d' s' b → SFoot d s b ∨ w.heap.size ≤ b
  only : Only (SFoot d s) w w'
theorem Stp.refl {d : Di} {s : Sl} {w : World} (h : MIs d s w) : Stp d s w d s w := ⟨h, rfl, rfl, rfl, fun _ h => .inl h, Only.refl _ _⟩
theorem Stp.trans {d d1 d2 : Di} {s s1 s2 : Sl} {w w1 w2 : World} (h : Stp d s w d1 s1 w1) (k : Stp d1 s1 w1 d2 s2 w2) : Stp d s w d2 s2 w2 :=
  ⟨k.m, k.p.trans h.p, k.aa.trans h.aa, k.az.trans h.az, fun b hb => (k.foot b hb).elim (fun e => h.foot b e) (fun e => .inr (Nat.le_trans h.only.size e)), h.only.trans k.only (fun x hx => h.foot x hx)⟩
theorem Stp.more {d d1 : Di} {s s1 : Sl} {w w1 w2 : World} {D : Nat → Prop} (h : Stp d s w d1 s1 w1) (ho : Only D w1 w2) (hd : ∀ b, D b → w.heap.size ≤ b ∧ ¬ SFoot d1 s1 b) : Stp d s w d1 s1 w2 :=
  ⟨h.m.only ho (fun b hb hD => (hd b hD).2 hb), h.p, h.aa, h.az, h.foot, h.only.trans ho (fun x hx => .inr (hd x hx).1)⟩
theorem Stp.drew {d d1 : Di} {s s1 : Sl} {w w1 : World} (h : Stp d s w d1 s1 w1) : Stp d s w d1 s1 w1.drew := h.more (D := fun _ => False) ((Only.refl _ w1).drew) (fun _ h => h.elim)
/-- Blocks that the call made of its own, ahead of it. -/
theorem Stp.after {d d1 : Di} {s s1 : Sl} {w w0 w1 : World} (hb : Below w.heap.size w w0) (h : Stp d s w0 d1 s1 w1) : Stp d s w d1 s1 w1 :=
  ⟨h.m, h.p, h.aa, h.az, fun b hf => (h.foot b hf).imp id (Nat.le_trans hb.size), (Below.only hb : Only (SFoot d s) w w0).trans h.only (fun _ hx => .inl hx)⟩

theorem Only.put {D : Nat → Prop} {w : World} {p : Addr} (hp : D p.block) (u : Value) : Only D w (w.setCell p u) := (Only.refl D w).setCell (.inl hp) u

/-- A class's row is another one. -/
theorem Stp.row {d : Di} {s : Sl} {w w1 : World} (h : MIs d s w) {c : Nat} (hc : c < s.sz.length) (v : Value) (l : List Nat) (ho : Only (fun b => (d.rv c).ownBlock = some b) w w1) (hr : w1.ownsRow 0 3 1 v l.length (nc l))
    (hv : ∀ b, v.ownBlock = some b → (d.rv c).ownBlock = some b ∨ w.heap.size ≤ b) : Stp d s w { d with rv := upd d.rv c v } (s.setRow c l) (w1.setCell ⟨d.R, c, none⟩ v) := by
  have hne : ∀ b, (d.rv c).ownBlock = some b → b ≠ d.P ∧ b ≠ d.A ∧ b ≠ d.O ∧ b ≠ d.B ∧ b ≠ d.Z ∧ b ≠ d.R ∧ b ≠ d.C := fun b hb => by
    obtain ⟨cs, hB⟩ := own_blk (h.row c hc) hb
    obtain ⟨cs2, hB2, _⟩ := h.ar.row
    obtain ⟨z1, z2⟩ := h.rvz c hc
    exact ⟨hB.ne h.head (by decide), hB.ne h.ar.head (by decide), fun e => z2 (by rw [hb, e]), hB.ne hB2 (by decide), fun e => z1 (by rw [hb, e]), hB.ne h.rws (by decide), hB.ne h.cts (by decide)⟩
  have ho2 : Only (fun b => (d.rv c).ownBlock = some b ∨ b = d.R) w (w1.setCell ⟨d.R, c, none⟩ v) := (ho.mono (fun _ hx => .inl hx)).setCell (p := ⟨d.R, c, none⟩) (.inl (.inr rfl)) v
  have hRlt := h.rws.lt
  obtain ⟨cur, hz, hx⟩ := h.szs
  have nR : ∀ b t cs, Blk w b t cs → t ≠ 22 → b ≠ d.R := fun b t cs hB ht => hB.ne h.rws ht
  have hvR : ∀ b, v.ownBlock = some b → b ≠ d.R := fun b hb e => by
    rcases hv b hb with e2 | e2
    · exact (hne b e2).2.2.2.2.2.1 e
    · omega
  refine ⟨⟨?_, ?_, ⟨cur, ?_, hx⟩, ?_, fun c' hc' => ?_, ?_, fun p k hk => ⟨?_, ?_⟩, h.cbi, h.ubi, fun c1 c2 b h1 h2 e1 e2 => ?_, fun c' hc' => ?_, h.zo⟩, rfl, rfl, rfl, fun b hb => ?_, ho2.mono (fun b hb => ?_)⟩
  · obtain ⟨cs2, hB2, _⟩ := h.ar.row
    refine h.ar.only ho2 (fun e => ?_) (fun e => ?_) (fun e => ?_)
    · rcases e with e | e
      · exact (hne _ e).2.1 rfl
      · exact h.ar.head.ne h.rws (by decide) e
    · rcases e with e | e
      · exact (hne _ e).2.2.1 rfl
      · exact h.ar.own.ne h.rws (by decide) e
    · rcases e with e | e
      · exact (hne _ e).2.2.2.1 rfl
      · exact hB2.ne h.rws (by decide) e
  · refine h.head.only ho2 (fun e => ?_)
    rcases e with e | e
    · exact (hne _ e).1 rfl
    · exact h.head.ne h.rws (by decide) e
  · refine hz.only ho2 (fun e => ?_)
    rcases e with e | e
    · exact (hne _ e).2.2.2.2.1 rfl
    · exact hz.ne h.rws (by decide) e
  · have h1 : Blk w1 d.R 22 (tab d.rv s.sz.length) := h.rws.only ho (fun e => (hne _ e).2.2.2.2.2.1 rfl)
    have h2 := h1.set c v
    rw [tab_set] at h2; exact h2
  · show (w1.setCell ⟨d.R, c, none⟩ v).ownsRow 0 _ 1 (upd d.rv c v c') (upd s.rows c l c').length (nc (upd s.rows c l c'))
    by_cases e : c' = c
    · subst e
      rw [upd_same, upd_same]
      exact own_only hr (Only.put (D := fun b => b = d.R) (p := ⟨d.R, c', none⟩) rfl v) (fun b hb e => hvR b hb e)
    · rw [upd_ne _ _ e, upd_ne _ _ e]
      refine own_only (h.row c' hc') ho2 (fun b hb e2 => ?_)
      rcases e2 with e2 | e2
      · exact e (h.rvi c' c b hc' hc hb e2)
      · obtain ⟨cs, hB⟩ := own_blk (h.row c' hc') hb
        exact hB.ne h.rws (by decide) e2
  · refine h.cts.only ho2 (fun e => ?_)
    rcases e with e | e
    · exact (hne _ e).2.2.2.2.2.2 rfl
    · exact h.cts.ne h.rws (by decide) e
  · have hB := (h.cut p k hk).1
    refine hB.only ho2 (fun e => ?_)
    rcases e with e | e
    · obtain ⟨cs, hB'⟩ := own_blk (h.row c hc) e
      exact hB.ne hB' (by decide) rfl
    · exact hB.ne h.rws (by decide) e
  · have hB := (h.cut p k hk).2
    refine hB.only ho2 (fun e => ?_)
    rcases e with e | e
    · obtain ⟨cs, hB'⟩ := own_blk (h.row c hc) e
      exact hB.ne hB' (by decide) rfl
    · exact hB.ne h.rws (by decide) e
  · have e1' : (upd d.rv c v c1).ownBlock = some b := e1
    have e2' : (upd d.rv c v c2).ownBlock = some b := e2
    by_cases q1 : c1 = c
    · by_cases q2 : c2 = c
      · rw [q1, q2]
      · rw [q1, upd_same] at e1'
        rw [upd_ne _ _ q2] at e2'
        rcases hv b e1' with e | e
        · exact (q2 (h.rvi c2 c b h2 hc e2' e)).elim
        · have := h.lt (foot_row h2 e2'); omega
    · rw [upd_ne _ _ q1] at e1'
      by_cases q2 : c2 = c
      · rw [q2, upd_same] at e2'
        rcases hv b e2' with e | e
        · exact (q1 (h.rvi c1 c b h1 hc e1' e)).elim
        · have := h.lt (foot_row h1 e1'); omega
      · rw [upd_ne _ _ q2] at e2'
        exact h.rvi c1 c2 b h1 h2 e1' e2'
  · show (upd d.rv c v c').ownBlock ≠ some d.Z ∧ (upd d.rv c v c').ownBlock ≠ some d.O
    by_cases e : c' = c
    · subst e
      rw [upd_same]
      refine ⟨fun e => ?_, fun e => ?_⟩
      · rcases hv _ e with e2 | e2
        · exact (h.rvz c' hc').1 e2
        · have := hz.lt; omega
      · rcases hv _ e with e2 | e2
        · exact (h.rvz c' hc').2 e2
        · have := h.ar.own.lt; omega
    · rw [upd_ne _ _ e]; exact h.rvz c' hc'
  · rcases hb with e | e | e | e | e | e | e | ⟨c', hc', e⟩ | e
    · exact .inl (.inl e)
    · exact .inl (.inr (.inl e))
    · exact .inl (.inr (.inr (.inl e)))
    · exact .inl (.inr (.inr (.inr (.inl e))))
    · exact .inl (.inr (.inr (.inr (.inr (.inl e)))))
    · exact .inl (.inr (.inr (.inr (.inr (.inr (.inl e))))))
    · exact .inl (.inr (.inr (.inr (.inr (.inr (.inr (.inl e)))))))
    · have e' : (upd d.rv c v c').ownBlock = some b := e
      by_cases q : c' = c
      · rw [q, upd_same] at e'
        exact (hv b e').imp (fun e => foot_row hc e) id
      · rw [upd_ne _ _ q] at e'
        exact .inl (foot_row hc' e')
    · exact .inl (.inr (.inr (.inr (.inr (.inr (.inr (.inr (.inr e))))))))
  · rcases hb with e | e
    · exact foot_row hc e
    · rw [e]; exact foot_R d s

/-- A page's cells are others. -/
theorem Stp.cut {d : Di} {s : Sl} {w w1 : World} (h : MIs d s w) {p : Nat} {k : Ct} (hk : s.cut p = some k) (k' : Ct) (ho : Only (fun b => b = d.cb p ∨ b = d.ub p) w w1)
    (h1 : Blk w1 (d.cb p) 82 (ctCells (d.ub p) s.U k')) (h2 : Blk w1 (d.ub p) 4 (bb k'.used)) : Stp d s w d (s.setCut p k') w1 := by
  obtain ⟨g1, g2⟩ := h.cut p k hk
  have hc : ∀ q l, upd s.cut p (some k') q = some l → ∃ l', s.cut q = some l' := fun q l e => by
    by_cases e2 : q = p
    · exact ⟨k, by rw [e2]; exact hk⟩
    · rw [upd_ne _ _ e2] at e; exact ⟨l, e⟩
  obtain ⟨cur, hz, hx⟩ := h.szs
  have hN : ∀ b t cs, Blk w b t cs → t ≠ 82 → t ≠ 4 → ¬ (b = d.cb p ∨ b = d.ub p) := fun b t cs hB n1 n2 e => by
    rcases e with e | e
    · exact hB.ne g1 n1 e
    · exact hB.ne g2 n2 e
  obtain ⟨cs2, hB2, _⟩ := h.ar.row
  refine ⟨⟨h.ar.only ho (hN _ _ _ h.ar.head (by decide) (by decide)) (hN _ _ _ h.ar.own (by decide) (by decide)) (hN _ _ _ hB2 (by decide) (by decide)), h.head.only ho (hN _ _ _ h.head (by decide) (by decide)),
    ⟨cur, hz.only ho (hN _ _ _ hz (by decide) (by decide)), hx⟩, h.rws.only ho (hN _ _ _ h.rws (by decide) (by decide)), fun c hc => own_only (h.row c hc) ho (fun b hb => ?_), ?_, fun q l hl => ?_, fun q1 q2 l1 l2 e1 e2 e => ?_, fun q1 q2 l1 l2 e1 e2 e => ?_, h.rvi, h.rvz, h.zo⟩, rfl, rfl, rfl, fun b hb => ?_, ho.mono (fun b hb => ?_)⟩
  · obtain ⟨cs, hB⟩ := own_blk (h.row c hc) hb
    exact hN _ _ _ hB (by decide) (by decide)
  · have e : tab (cutV (upd s.cut p (some k')) d.cb) 1024 = tab (cutV s.cut d.cb) 1024 := tab_same (fun i _ => by
      by_cases e : i = p
      · subst e
        rw [cutV_some (upd_same _ _ _), cutV_some hk]
      · unfold cutV; rw [upd_ne _ _ e])
    show Blk w1 d.C _ (tab (cutV (upd s.cut p (some k')) d.cb) 1024)
    rw [e]
    exact h.cts.only ho (hN _ _ _ h.cts (by decide) (by decide))
  · have hl' : upd s.cut p (some k') q = some l := hl
    by_cases e : q = p
    · subst e
      rw [upd_same] at hl'
      cases hl'
      exact ⟨h1, h2⟩
    · rw [upd_ne _ _ e] at hl'
      obtain ⟨f1, f2⟩ := h.cut q l hl'
      refine ⟨f1.only ho (fun e2 => ?_), f2.only ho (fun e2 => ?_)⟩
      · rcases e2 with e2 | e2
        · exact e (h.cbi q p l k hl' hk e2)
        · exact f1.ne g2 (by decide) e2
      · rcases e2 with e2 | e2
        · exact f2.ne g1 (by decide) e2
        · exact e (h.ubi q p l k hl' hk e2)
  · obtain ⟨m1, f1⟩ := hc q1 l1 e1
    obtain ⟨m2, f2⟩ := hc q2 l2 e2
    exact h.cbi q1 q2 m1 m2 f1 f2 e
  · obtain ⟨m1, f1⟩ := hc q1 l1 e1
    obtain ⟨m2, f2⟩ := hc q2 l2 e2
    exact h.ubi q1 q2 m1 m2 f1 f2 e
  · rcases hb with e | e | e | e | e | e | e | e | ⟨q, l, hl, e⟩
    · exact .inl (.inl e)
    · exact .inl (.inr (.inl e))
    · exact .inl (.inr (.inr (.inl e)))
    · exact .inl (.inr (.inr (.inr (.inl e))))
    · exact .inl (.inr (.inr (.inr (.inr (.inl e)))))
    · exact .inl (.inr (.inr (.inr (.inr (.inr (.inl e))))))
    · exact .inl (.inr (.inr (.inr (.inr (.inr (.inr (.inl e)))))))
    · exact .inl (.inr (.inr (.inr (.inr (.inr (.inr (.inr (.inl e))))))))
    · obtain ⟨m, f⟩ := hc q l hl
      exact .inl (.inr (.inr (.inr (.inr (.inr (.inr (.inr (.inr ⟨q, m, f, e⟩))))))))
  · rcases hb with e | e
    · rw [e]; exact foot_cb hk
    · rw [e]; exact foot_ub hk

/-- The arena is another one. -/
theorem Stp.arena {d : Di} {s : Sl} {w w1 : World} (h : MIs d s w) (a' : St) (hs : a'.size = s.a.size) (ho : Only (fun b => b = d.O ∨ b = d.B) w w1) (ha : AIs d.A d.O d.B a' w1) : Stp d s w d { s with a := a' } w1 := by
  obtain ⟨cur, hz, hx⟩ := h.szs
  obtain ⟨cs2, hB2, _⟩ := h.ar.row
  have hN : ∀ b t cs, Blk w b t cs → t ≠ 3 → t ≠ 5 → ¬ (b = d.O ∨ b = d.B) := fun b t cs hB n1 n2 e => by
    rcases e with e | e
    · exact hB.ne h.ar.own n1 e
    · exact hB.ne hB2 n2 e
  have hU : ({ s with a := a' } : Sl).U = s.U := by unfold Sl.U; show a'.size / 64 = _; rw [hs]
  refine ⟨⟨ha, h.head.only ho (hN _ _ _ h.head (by decide) (by decide)), ⟨cur, hz.only ho (fun e => ?_), hx⟩, h.rws.only ho (hN _ _ _ h.rws (by decide) (by decide)), fun c hc => own_only (h.row c hc) ho (fun b hb e => ?_),
    h.cts.only ho (hN _ _ _ h.cts (by decide) (by decide)), fun q l hl => ?_, h.cbi, h.ubi, h.rvi, h.rvz, h.zo⟩, rfl, rfl, hs, fun b hb => .inl hb, ho.mono (fun b hb => ?_)⟩
  · rcases e with e | e
    · exact h.zo e
    · exact hz.ne hB2 (by decide) e
  · rcases e with e | e
    · exact (h.rvz c hc).2 (by rw [hb, e])
    · obtain ⟨cs, hB⟩ := own_blk (h.row c hc) hb
      exact hB.ne hB2 (by decide) e
  · obtain ⟨f1, f2⟩ := h.cut q l hl
    rw [hU]
    exact ⟨f1.only ho (hN _ _ _ f1 (by decide) (by decide)), f2.only ho (hN _ _ _ f2 (by decide) (by decide))⟩
  · rcases hb with e | e
    · rw [e]; exact foot_O d s
    · rw [e]; exact foot_B d s

/-- A page is cut: blocks of its own, and its place in the table. -/
theorem Stp.grow {d : Di} {s : Sl} {w w1 : World} (h : MIs d s w) {p : Nat} (_ : p < 1024) (hk : s.cut p = none) (k' : Ct) (u q : Nat) (hu : w.heap.size ≤ u) (hq : w.heap.size ≤ q) (ho : Only (fun b => b = d.C) w w1) (hC : Blk w1 d.C 78 (tab (upd (cutV s.cut d.cb) p (.pointer (some ⟨q, 0, none⟩))) 1024))
    (h1 : Blk w1 q 82 (ctCells u s.U k')) (h2 : Blk w1 u 4 (bb k'.used)) : Stp d s w { d with cb := upd d.cb p q, ub := upd d.ub p u } (s.setCut p k') w1 := by
  have m1 := h
  obtain ⟨cur, hz, hx⟩ := m1.szs
  obtain ⟨cs2, hB2, _⟩ := m1.ar.row
  have hClt := h.cts.lt
  have hN : ∀ b t cs, Blk w b t cs → t ≠ 78 → ¬ b = d.C := fun b t cs hB n1 => hB.ne m1.cts n1
  refine ⟨⟨m1.ar.only ho (hN _ _ _ m1.ar.head (by decide)) (hN _ _ _ m1.ar.own (by decide)) (hN _ _ _ hB2 (by decide)), m1.head.only ho (hN _ _ _ m1.head (by decide)), ⟨cur, hz.only ho (hN _ _ _ hz (by decide)), hx⟩, m1.rws.only ho (hN _ _ _ m1.rws (by decide)),
    fun c hc => own_only (m1.row c hc) ho (fun b hb => ?_), ?_, fun i l hl => ?_, fun i j l1 l2 e1 e2 e => ?_, fun i j l1 l2 e1 e2 e => ?_, m1.rvi, m1.rvz, m1.zo⟩, rfl, rfl, rfl, fun b hb => ?_, ho.mono (fun x hx => by rw [hx]; exact foot_C d s)⟩
  · obtain ⟨cs, hB⟩ := own_blk (m1.row c hc) hb
    exact hN _ _ _ hB (by decide)
  · have e : tab (cutV (upd s.cut p (some k')) (upd d.cb p q)) 1024 = tab (upd (cutV s.cut d.cb) p (.pointer (some ⟨q, 0, none⟩))) 1024 := tab_same (fun i _ => by
      by_cases e : i = p
      · subst e
        rw [cutV_some (upd_same _ _ _), upd_same, upd_same]
      · unfold cutV
        rw [upd_ne _ _ e, upd_ne _ _ e, upd_ne _ _ e])
    show Blk _ d.C _ (tab (cutV (upd s.cut p (some k')) (upd d.cb p q)) 1024)
    rw [e]; exact hC
  · have hl' : upd s.cut p (some k') i = some l := hl
    show Blk _ (upd d.cb p q i) _ (ctCells (upd d.ub p u i) _ l) ∧ Blk _ (upd d.ub p u i) _ _
    by_cases e : i = p
    · subst e
      rw [upd_same] at hl'
      cases hl'
      rw [upd_same, upd_same]
      exact ⟨h1, h2⟩
    · rw [upd_ne _ _ e] at hl'
      rw [upd_ne _ _ e, upd_ne _ _ e]
      obtain ⟨f1, f2⟩ := m1.cut i l hl'
      exact ⟨f1.only ho (hN _ _ _ f1 (by decide)), f2.only ho (hN _ _ _ f2 (by decide))⟩
  · have e1' : upd s.cut p (some k') i = some l1 := e1
    have e2' : upd s.cut p (some k') j = some l2 := e2
    have e' : upd d.cb p q i = upd d.cb p q j := e
    by_cases q1 : i = p
    · by_cases q2 : j = p
      · rw [q1, q2]
      · rw [q1, upd_same, upd_ne _ _ q2] at e'
        rw [upd_ne _ _ q2] at e2'
        have := h.lt (foot_cb e2'); omega
    · rw [upd_ne _ _ q1] at e1'
      by_cases q2 : j = p
      · rw [q2, upd_same, upd_ne _ _ q1] at e'
        have := h.lt (foot_cb e1'); omega
      · rw [upd_ne _ _ q2] at e2'
        rw [upd_ne _ _ q1, upd_ne _ _ q2] at e'
        exact h.cbi i j l1 l2 e1' e2' e'
  · have e1' : upd s.cut p (some k') i = some l1 := e1
    have e2' : upd s.cut p (some k') j = some l2 := e2
    have e' : upd d.ub p u i = upd d.ub p u j := e
    by_cases q1 : i = p
    · by_cases q2 : j = p
      · rw [q1, q2]
      · rw [q1, upd_same, upd_ne _ _ q2] at e'
        rw [upd_ne _ _ q2] at e2'
        have := h.lt (foot_ub e2'); omega
    · rw [upd_ne _ _ q1] at e1'
      by_cases q2 : j = p
      · rw [q2, upd_same, upd_ne _ _ q1] at e'
        have := h.lt (foot_ub e1'); omega
      · rw [upd_ne _ _ q2] at e2'
        rw [upd_ne _ _ q1, upd_ne _ _ q2] at e'
        exact h.ubi i j l1 l2 e1' e2' e'
  · rcases hb with e | e | e | e | e | e | e | e | ⟨i, l, hl, e⟩
    · exact .inl (.inl e)
    · exact .inl (.inr (.inl e))
    · exact .inl (.inr (.inr (.inl e)))
    · exact .inl (.inr (.inr (.inr (.inl e))))
    · exact .inl (.inr (.inr (.inr (.inr (.inl e)))))
    · exact .inl (.inr (.inr (.inr (.inr (.inr (.inl e))))))
    · exact .inl (.inr (.inr (.inr (.inr (.inr (.inr (.inl e)))))))
    · exact .inl (.inr (.inr (.inr (.inr (.inr (.inr (.inr (.inl e))))))))
    · have hl' : upd s.cut p (some k') i = some l := hl
      have e' : b = upd d.cb p q i ∨ b = upd d.ub p u i := e
      by_cases q1 : i = p
      · subst q1
        rw [upd_same, upd_same] at e'
        rcases e' with e' | e'
        · exact .inr (e' ▸ hq)
        · exact .inr (e' ▸ hu)
      · rw [upd_ne _ _ q1] at hl'
        rw [upd_ne _ _ q1, upd_ne _ _ q1] at e'
        exact .inl (.inr (.inr (.inr (.inr (.inr (.inr (.inr (.inr ⟨i, l, hl', e'⟩))))))))
end Go.Proofs.Ytldfpacdlephcaa
