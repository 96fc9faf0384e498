/-
  The program's adaptive replacement: how it lies in memory (its head with both ghosts' pointers, the rows, the map of numbers, the ghosts), what turns of it and what stays. No program is run in it. No conditions.
-/
import Derived.Test.YtklmgmkeaipppaaArcRefCalls
import Derived.Test.YtklmgmkeaipppaaGhostHas
import Derived.Maps.OwnSet
namespace Go.Proofs.Ytklmgmkeaipppaa.Ac
open Go Go.RowKit Go.Lib

def u64ok (z : Int) : Prop := 0 ≤ z ∧ z ≤ 18446744073709551615
/-- The numbers of a ghost. -/
def Ar.gh (s : Ar) (r : Int) : List Int := if r = 0 then s.b1 else if r = 1 then s.b2 else []

/-! A map of ints to numbers -/
theorem underNum : Try.prog.underlying 54 = some (.map 3 29) := Try.underlying54
theorem underU : Try.prog.underlying 29 = some (.int .u64) := Try.underlying29
theorem zeroU (w : World) : (zeroValue 29).run Try.prog w = .ok (.int .u64 0) w := by kernel_rfl
/-- Block b is a map of ints to numbers: at z stands f z, and 0 where z is no key of it; its keys are few. -/
def NM (w : World) (b : Nat) (f : Int → Int) : Prop :=
  ∃ (D : DataW Unit) (xs : List Int), w.ownsMap Try.prog 3 (plainElem Try.prog 29) b xs.length D ∧ Maps.size D = xs.length ∧ xs.Nodup ∧ (∀ z ∈ xs, 0 ≤ z ∧ z ≤ 4194303) ∧
    ∀ z, i64ok z → D.atKey (.int .i64 z) (.lit (.int .u64 0)) = .lit (.int .u64 (f z)) ∧ Maps.has D (.int .i64 z) = decide (z ∈ xs)
theorem nz_exact {w : World} {b n : Nat} {D : DataW Unit} (h : w.ownsMap Try.prog 3 (plainElem Try.prog 29) b n D) : w.ownsMap Try.prog 3 (plainElem Try.prog 29) b (Maps.size D) D := by
  obtain ⟨es, clock, h1, F, h2, rfl⟩ := h
  refine ⟨es, clock, h1, F, ?_, rfl⟩
  rw [Maps.size_eq, length_sorted]; simp
theorem NM.lt {w : World} {b : Nat} {f : Int → Int} (h : NM w b f) : b < w.heap.size := by obtain ⟨D, xs, h, _⟩ := h; exact h.lt
theorem NM.keep {w w' : World} {b : Nat} {f : Int → Int} (h : NM w b f) (hb : w'.heap[b]? = w.heap[b]?) : NM w' b f := by
  obtain ⟨D, xs, ⟨es, clock, h1, h2⟩, h3⟩ := h
  exact ⟨D, xs, ⟨es, clock, hb.trans h1, h2⟩, h3⟩
theorem NM.only {D : Nat → Prop} {w w' : World} {b : Nat} {f : Int → Int} (h : NM w b f) (ho : Only D w w') (hd : ¬ D b) : NM w' b f := h.keep (ho.block b h.lt hd)
theorem NM.new (w : World) : NM (w.alloc (.map #[] 0)) w.heap.size (fun _ => 0) :=
  ⟨.map [], [], World.ownsMap_made w _ _ _, rfl, List.nodup_nil, (fun z hz => by cases hz), fun _ _ => ⟨rfl, by simp; rfl⟩⟩
theorem nfilt_no {xs : List Int} {z : Int} (h : z ∉ xs) : xs.filter (fun y => decide (y ≠ z)) = xs := List.filter_eq_self.2 (fun _ hy => decide_eq_true (fun e => h (e ▸ hy)))
theorem nfilt_len {xs : List Int} (hn : xs.Nodup) {z : Int} : (xs.filter (fun y => decide (y ≠ z))).length = if z ∈ xs then xs.length - 1 else xs.length := by
  by_cases h : z ∈ xs
  · rw [if_pos h]
    induction xs with
    | nil => cases h
    | cons x l ih =>
      have hx := List.nodup_cons.1 hn
      by_cases e : x = z
      · subst e
        rw [List.filter_cons, if_neg (by simp), nfilt_no hx.1]; rfl
      · have hz : z ∈ l := by
          rcases List.mem_cons.1 h with e2 | e2
          · exact absurd e2.symm e
          · exact e2
        rw [List.filter_cons, if_pos (by simpa using e), List.length_cons, ih hx.2 hz, List.length_cons]
        have := List.length_pos_of_mem hz
        omega
  · rw [if_neg h, nfilt_no h]
/-- A store. -/
theorem NM.put {w : World} {b : Nat} {f : Int → Int} (h : NM w b f) {z x : Int} (hz : 0 ≤ z ∧ z ≤ 4194303) (hx : u64ok x) :
    ∃ w', (Instr.mapUpdate 54 (.map (some b)) (.int .i64 z) (.int .u64 x)).run Try.prog w = .ok () w' ∧ NM w' b (updN f z x) ∧ w.mapTurned w' b := by
  obtain ⟨D, xs, h, hs, hn, hr, hk⟩ := h
  have hzi : i64ok z := by unfold i64ok; omega
  have hl : xs.length ≤ 4194304 := nodup_le 4194304 hn (fun y hy => by have := hr y hy; omega)
  obtain ⟨w', hrun, h1, h2⟩ := h.store (val := .int .u64 x) keyInt underNum (by unfold maxLen; omega) (key_of hzi) (plainElem_int underU (WalkArith.wf_u64 hx))
  have hat : ∀ y, i64ok y → (D.put (.int .i64 z) (.lit (.int .u64 x))).atKey (.int .i64 y) (.lit (.int .u64 0)) = .lit (.int .u64 (updN f z x y)) := fun y hy => by
    by_cases e : y = z
    · subst e
      rw [updN_same]
      exact Maps.atKey_put_same h.isMap (k := .int .i64 y) trivial _ _
    · rw [updN_other e, Maps.atKey_put_other (lit_ne e)]
      exact (hk y hy).1
  by_cases hm : z ∈ xs
  · have hsz : Maps.size (D.put (.int .i64 z) (.lit (.int .u64 x))) = xs.length := by
      rw [Maps.size_put (h.tidy keyInt), (hk z hzi).2, hs, decide_eq_true hm]; rfl
    refine ⟨w', hrun, ⟨_, xs, hsz ▸ nz_exact h1, hsz, hn, hr, fun y hy => ⟨hat y hy, ?_⟩⟩, h2⟩
    by_cases e : y = z
    · subst e
      rw [Maps.has_put_same h.isMap (k := .int .i64 y) trivial, decide_eq_true hm]
    · rw [Maps.has_put_other (lit_ne e)]
      exact (hk y hy).2
  · have hsz : Maps.size (D.put (.int .i64 z) (.lit (.int .u64 x))) = (z :: xs).length := by
      rw [Maps.size_put (h.tidy keyInt), (hk z hzi).2, hs, decide_eq_false hm]; rfl
    refine ⟨w', hrun, ⟨_, z :: xs, hsz ▸ nz_exact h1, hsz, List.nodup_cons.2 ⟨hm, hn⟩, fun y hy => ?_, fun y hy => ⟨hat y hy, ?_⟩⟩, h2⟩
    · rcases List.mem_cons.1 hy with rfl | hy
      · exact hz
      · exact hr y hy
    · by_cases e : y = z
      · subst e
        rw [Maps.has_put_same h.isMap (k := .int .i64 y) trivial]; simp
      · rw [Maps.has_put_other (lit_ne e), (hk y hy).2]; simp [e]
/-- A deletion. -/
theorem NM.del {w : World} {b : Nat} {f : Int → Int} (h : NM w b f) {z : Int} (hz : i64ok z) (ty : TypeId) :
    ∃ w', (Builtin.delete_ #[54, 3] ty #[.map (some b), .int .i64 z]).run Try.prog w = .ok (.tuple #[]) w' ∧ NM w' b (updN f z 0) ∧ w.mapTurned w' b := by
  obtain ⟨D, xs, h, hs, hn, hr, hk⟩ := h
  obtain ⟨w', hrun, h1, h2⟩ := h.drop keyInt underNum (key_of hz) ty
  have hsz : Maps.size (D.del (.int .i64 z)) = (xs.filter (fun y => decide (y ≠ z))).length := by
    have := Maps.size_del (k := .int .i64 z) (h.tidy keyInt)
    rw [(hk z hz).2, hs] at this
    rw [nfilt_len hn]
    by_cases e : z ∈ xs
    · rw [decide_eq_true e] at this
      rw [if_pos e]
      simp at this; omega
    · rw [decide_eq_false e] at this
      rw [if_neg e]
      simpa using this
  refine ⟨w', hrun, ⟨_, _, hsz ▸ nz_exact h1, hsz, hn.filter _, fun y hy => hr y (List.mem_filter.1 hy).1, fun y hy => ?_⟩, h2⟩
  by_cases e : y = z
  · subst e
    rw [updN_same, Maps.atKey_del_same, Maps.has_del_same]
    exact ⟨rfl, by simp⟩
  · rw [updN_other e, Maps.atKey_del_other (lit_ne e), Maps.has_del_other (lit_ne e)]
    refine ⟨(hk y hy).1, ?_⟩
    rw [(hk y hy).2]; simp [e]
/-- A look-up, as a run. -/
theorem NM.look {w : World} {b : Nat} {f : Int → Int} (h : NM w b f) {z : Int} (hz : i64ok z) : (Instr.lookup 54 (.map (some b)) (.int .i64 z) false).run Try.prog w = .ok (.int .u64 (f z)) w := by
  obtain ⟨D, xs, h, _, _, _, hk⟩ := h
  obtain ⟨c, hrun, hat, _⟩ := h.lookup_int (q := .u64) keyInt underNum underU (zeroU w) (key_of hz)
  rw [(hk z hz).1] at hat
  have : f z = c := by injection hat with e; injection e
  rw [hrun, this]

/-! At the operation, for the walk -/
section
variable {w : World} {ops : Array Oper} {rest : List Oper} {o : Oper} {a : Act} {Q : Exit → Act → World → Prop}
theorem wpList_nm_put (hg : o.guard = none) (m x v : Operand) (hop : o.op = Op.mapUpdate 54 m x v) {b : Nat} {f : Int → Int} (hm : a.eval m = .map (some b)) (h : Hid (NM w b f))
    {z y : Int} (hx : a.eval x = .int .i64 z) (hv : a.eval v = .int .u64 y) (hz : Hid ((0 ≤ z ∧ z ≤ 4194303) ∧ u64ok y))
    (hK : ∀ w', Hid (NM w' b (updN f z y)) → Hid (w.mapTurned w' b) → wpList Try.prog ops Q rest (a.put o.dst undef) w') : wpList Try.prog ops Q (o :: rest) a w := by
  refine wpList_plain hg fun K' hK' => ?_
  obtain ⟨w', hrun, r1, r2⟩ := h.out.put hz.out.1 hz.out.2
  unfold Oper.wp
  simp [execOp, hop, hm, hx, hv, hrun, Result.andThen]
  exact hK' _ _ (hK w' (hid r1) (hid r2))
theorem wpList_nm_del (hg : o.guard = none) (m x : Operand) (hop : o.op = Op.call { callee := Callee.builtin Builtin.delete, args := #[m, x], argTypes := #[54, 3] }) {b : Nat} {f : Int → Int} (hm : a.eval m = .map (some b)) (h : Hid (NM w b f))
    {z : Int} (hx : a.eval x = .int .i64 z) (hz : Hid (i64ok z))
    (hK : ∀ w', Hid (NM w' b (updN f z 0)) → Hid (w.mapTurned w' b) → wpList Try.prog ops Q rest (a.put o.dst (.tuple #[])) w') : wpList Try.prog ops Q (o :: rest) a w := by
  refine wpList_plain hg fun K' hK' => ?_
  obtain ⟨w', hrun, r1, r2⟩ := h.out.del hz.out o.type
  unfold Oper.wp
  simp [execOp, hop, resolve, invoke, builtin, hm, hx, hrun, Result.andThen]
  exact hK' _ _ (hK w' (hid r1) (hid r2))
theorem wpList_nm_look (hg : o.guard = none) (m x : Operand) (hop : o.op = Op.lookup 54 m x false) {b : Nat} {f : Int → Int} (hm : a.eval m = .map (some b)) (h : Hid (NM w b f))
    {z : Int} (hx : a.eval x = .int .i64 z) (hz : Hid (i64ok z)) {B : Int} (hB : Hid (f z = B))
    (hK : wpList Try.prog ops Q rest (a.put o.dst (.int .u64 B)) w) : wpList Try.prog ops Q (o :: rest) a w := by
  refine wpList_plain hg fun K' hK' => ?_
  have hrun := h.out.look hz.out
  rw [hB.out] at hrun
  unfold Oper.wp
  simp [execOp, hop, hm, hx, hrun, Result.andThen]
  exact hK' _ _ hK
end

theorem gup {F F' : Nat → Prop} {w w' : World} (h : Gh.Stp F F' w w') : Stp F F' w w' := ⟨h.only, h.foot⟩
theorem gat_len {Q m : Nat} {F : Nat → Prop} {l : List Int} {w : World} (h : Gh.GAt Q F m l w) : l.length ≤ 4194304 := by
  obtain ⟨M, N, h, rfl, _⟩ := h
  rw [Gh.idl_len]; exact h.len
theorem take_front {L : List (List Int)} {i : Nat} {z : Int} : takeL (frontL L i z) z = takeL L z := by
  have hM : takeL (takeL L z) z = takeL L z := take_no (fun h => (mem_take.1 h).2 rfl)
  unfold frontL
  generalize takeL L z = M at *
  have h1 : takeL (M.set i (z :: M[i]?.getD [])) z = (takeL M z).set i ((z :: M[i]?.getD []).filter (fun y => decide (y ≠ z))) := by simp [takeL, List.map_set]
  rw [h1, hM, List.filter_cons, if_neg (by simp)]
  by_cases hi : i < M.length
  · have h2 : M[i].filter (fun y => decide (y ≠ z)) = M[i] := by
      have h3 := congrArg (fun X => X[i]?) hM
      simpa [takeL, hi] using h3
    rw [List.getElem?_eq_getElem hi]
    show M.set i (M[i].filter _) = M
    rw [h2]; simp
  · rw [List.set_eq_of_length_le (by omega)]
theorem opF_twice {L : List (List Int)} {z : Int} (h0 : May L.length 0 z) (h1 : May L.length 1 z) : opFront (opFront L 0 z) 1 z = opFront L 1 z := by
  rw [opFront_yes h0, opFront_yes h1, opFront_yes (by show May (frontL L 0 z).length 1 z; rw [show (frontL L 0 z).length = L.length by unfold frontL; simp [takeL_len]]; exact h1)]
  show frontL (frontL L 0 z) 1 z = frontL L 1 z
  show (takeL (frontL L 0 z) z).set 1 (z :: (takeL (frontL L 0 z) z)[1]?.getD []) = _
  rw [take_front]; rfl

/-! The program's own -/
/-- Its head lies at P, the rows at r, the map of the numbers at m, the ghosts at Q1 and Q2: five parts. -/
structure AP (P r m Q1 Q2 : Nat) (F : Nat → Nat → Prop) (L : List (List Int)) (c m1 m2 : Nat) (b1 b2 : List Int) (p : Int) (num : Int → Int) (w : World) : Prop where
  head : Blk w P 58 [.pointer (some ⟨r, 0, none⟩), .map (some m), .pointer (some ⟨Q1, 0, none⟩), .pointer (some ⟨Q2, 0, none⟩), .int .i64 c, .int .i64 p]
  rows : RAt r (F 1) L w
  map : NM w m num
  g1 : Gh.GAt Q1 (F 3) m1 b1 w
  g2 : Gh.GAt Q2 (F 4) m2 b2 w
  nok : ∀ z, u64ok (num z)
  f0 : ∀ b, F 0 b ↔ b = P
  f2 : ∀ b, F 2 b ↔ b = m
  f5 : ∀ i b, 5 ≤ i → ¬ F i b
  dj : Dj F w
section
variable {P r m Q1 Q2 : Nat} {F : Nat → Nat → Prop} {L : List (List Int)} {c m1 m2 : Nat} {b1 b2 : List Int} {p : Int} {num : Int → Int} {w w' : World}
theorem AP.only {D : Nat → Prop} (h : AP P r m Q1 Q2 F L c m1 m2 b1 b2 p num w) (ho : Only D w w') (hd : ∀ b, allF F b → ¬ D b) : AP P r m Q1 Q2 F L c m1 m2 b1 b2 p num w' :=
  ⟨h.head.only ho (hd P ⟨0, (h.f0 P).2 rfl⟩), h.rows.only ho (fun b hb => hd b ⟨1, hb⟩), h.map.only ho (hd m ⟨2, (h.f2 m).2 rfl⟩), h.g1.only ho (fun b hb => hd b ⟨3, hb⟩), h.g2.only ho (fun b hb => hd b ⟨4, hb⟩), h.nok, h.f0, h.f2, h.f5, h.dj.keep ho.size⟩
theorem AP.below (h : AP P r m Q1 Q2 F L c m1 m2 b1 b2 p num w) (hb : Below w.heap.size w w') : AP P r m Q1 Q2 F L c m1 m2 b1 b2 p num w' := h.only (D := fun _ => False) (Below.only hb) (fun _ _ => id)
/-- The rows turned. -/
theorem AP.goR {X : Nat → Prop} {L' : List (List Int)} (h : AP P r m Q1 Q2 F L c m1 m2 b1 b2 p num w) (k : RAt r X L' w') (g : Stp (F 1) X w w') : AP P r m Q1 Q2 (setF F 1 X) L' c m1 m2 b1 b2 p num w' ∧ Stp (allF F) (allF (setF F 1 X)) w w' :=
  ⟨⟨h.head.only g.only (h.dj.out (i := 0) (by decide) P ((h.f0 P).2 rfl)), by rw [setF_same]; exact k, h.map.only g.only (h.dj.out (i := 2) (by decide) m ((h.f2 m).2 rfl)), by rw [setF_other (by decide)]; exact h.g1.only g.only (h.dj.out (by decide)), by rw [setF_other (by decide)]; exact h.g2.only g.only (h.dj.out (by decide)),
    h.nok, by rw [setF_other (by decide)]; exact h.f0, by rw [setF_other (by decide)]; exact h.f2, fun i b hi => by rw [setF_other (by omega)]; exact h.f5 i b hi, h.dj.step g (fun b hb => k.lt hb)⟩, g.part⟩
/-- The first ghost turned. -/
theorem AP.goA {X : Nat → Prop} {b1' : List Int} {m1' : Nat} (h : AP P r m Q1 Q2 F L c m1 m2 b1 b2 p num w) (k : Gh.GAt Q1 X m1' b1' w') (g : Stp (F 3) X w w') : AP P r m Q1 Q2 (setF F 3 X) L c m1' m2 b1' b2 p num w' ∧ Stp (allF F) (allF (setF F 3 X)) w w' :=
  ⟨⟨h.head.only g.only (h.dj.out (i := 0) (by decide) P ((h.f0 P).2 rfl)), by rw [setF_other (by decide)]; exact h.rows.only g.only (h.dj.out (by decide)), h.map.only g.only (h.dj.out (i := 2) (by decide) m ((h.f2 m).2 rfl)), by rw [setF_same]; exact k, by rw [setF_other (by decide)]; exact h.g2.only g.only (h.dj.out (by decide)),
    h.nok, by rw [setF_other (by decide)]; exact h.f0, by rw [setF_other (by decide)]; exact h.f2, fun i b hi => by rw [setF_other (by omega)]; exact h.f5 i b hi, h.dj.step g (fun b hb => k.lt hb)⟩, g.part⟩
/-- The second ghost turned. -/
theorem AP.goB {X : Nat → Prop} {b2' : List Int} {m2' : Nat} (h : AP P r m Q1 Q2 F L c m1 m2 b1 b2 p num w) (k : Gh.GAt Q2 X m2' b2' w') (g : Stp (F 4) X w w') : AP P r m Q1 Q2 (setF F 4 X) L c m1 m2' b1 b2' p num w' ∧ Stp (allF F) (allF (setF F 4 X)) w w' :=
  ⟨⟨h.head.only g.only (h.dj.out (i := 0) (by decide) P ((h.f0 P).2 rfl)), by rw [setF_other (by decide)]; exact h.rows.only g.only (h.dj.out (by decide)), h.map.only g.only (h.dj.out (i := 2) (by decide) m ((h.f2 m).2 rfl)), by rw [setF_other (by decide)]; exact h.g1.only g.only (h.dj.out (by decide)), by rw [setF_same]; exact k,
    h.nok, by rw [setF_other (by decide)]; exact h.f0, by rw [setF_other (by decide)]; exact h.f2, fun i b hi => by rw [setF_other (by omega)]; exact h.f5 i b hi, h.dj.step g (fun b hb => k.lt hb)⟩, g.part⟩
/-- The map turned. -/
theorem AP.goN {num' : Int → Int} (h : AP P r m Q1 Q2 F L c m1 m2 b1 b2 p num w) (k : NM w' m num') (t : w.mapTurned w' m) (nok : ∀ z, u64ok (num' z)) : AP P r m Q1 Q2 F L c m1 m2 b1 b2 p num' w' ∧ Stp (allF F) (allF F) w w' := by
  have ho : Only (F 2) w w' := Only.map t ((h.f2 m).2 rfl)
  exact ⟨⟨h.head.only ho (h.dj.out (i := 0) (by decide) P ((h.f0 P).2 rfl)), h.rows.only ho (h.dj.out (by decide)), k, h.g1.only ho (h.dj.out (by decide)), h.g2.only ho (h.dj.out (by decide)), nok, h.f0, h.f2, h.f5, h.dj.keep ho.size⟩, ho.mono (fun b hb => ⟨2, hb⟩), fun b hb => .inl hb⟩
theorem AP.hdOnly (h : AP P r m Q1 Q2 F L c m1 m2 b1 b2 p num w) (k : Nat) (u : Value) : Only (F 0) w (w.setCell ⟨P, k, none⟩ u) := (Only.refl _ _).setCell (p := ⟨P, k, none⟩) (.inl ((h.f0 P).2 rfl)) u
/-- The target turned. -/
theorem AP.goP (h : AP P r m Q1 Q2 F L c m1 m2 b1 b2 p num w) (p' : Int) : AP P r m Q1 Q2 F L c m1 m2 b1 b2 p' num (w.setCell ⟨P, 5, none⟩ (.int .i64 p')) ∧ Stp (allF F) (allF F) w (w.setCell ⟨P, 5, none⟩ (.int .i64 p')) := by
  have ho := h.hdOnly 5 (.int .i64 p')
  exact ⟨⟨h.head.set 5 (.int .i64 p'), h.rows.only ho (h.dj.out (by decide)), h.map.only ho (h.dj.out (i := 2) (by decide) m ((h.f2 m).2 rfl)), h.g1.only ho (h.dj.out (by decide)), h.g2.only ho (h.dj.out (by decide)), h.nok, h.f0, h.f2, h.f5, h.dj.keep ho.size⟩, ho.mono (fun b hb => ⟨0, hb⟩), fun b hb => .inl hb⟩
/-- The bound turned. -/
theorem AP.goM (h : AP P r m Q1 Q2 F L c m1 m2 b1 b2 p num w) (c' : Nat) : AP P r m Q1 Q2 F L c' m1 m2 b1 b2 p num (w.setCell ⟨P, 4, none⟩ (.int .i64 c')) ∧ Stp (allF F) (allF F) w (w.setCell ⟨P, 4, none⟩ (.int .i64 c')) := by
  have ho := h.hdOnly 4 (.int .i64 c')
  exact ⟨⟨h.head.set 4 (.int .i64 c'), h.rows.only ho (h.dj.out (by decide)), h.map.only ho (h.dj.out (i := 2) (by decide) m ((h.f2 m).2 rfl)), h.g1.only ho (h.dj.out (by decide)), h.g2.only ho (h.dj.out (by decide)), h.nok, h.f0, h.f2, h.f5, h.dj.keep ho.size⟩, ho.mono (fun b hb => ⟨0, hb⟩), fun b hb => .inl hb⟩

/-! What the parts' calls make of it -/
theorem ap_front (h : AP P r m Q1 Q2 F L c m1 m2 b1 b2 p num w) (i z : Int) (hz : i64ok z) :
    Calls Try.prog 40 #[.pointer (some ⟨r, 0, none⟩), .int .i64 i, .int .i64 z] w fun e w' => e = .returned (.bool (decide (May L.length i z))) ∧ ∃ F', AP P r m Q1 Q2 F' (opFront L i z) c m1 m2 b1 b2 p num w' ∧ Stp (allF F) (allF F') w w' := by
  refine (at_front h.rows i z hz).mono ?_
  rintro e w' ⟨he, X, k, g⟩
  exact ⟨he, _, h.goR k g⟩
theorem ap_take (h : AP P r m Q1 Q2 F L c m1 m2 b1 b2 p num w) (z : Int) (hz : i64ok z) :
    Calls Try.prog 50 #[.pointer (some ⟨r, 0, none⟩), .int .i64 z] w fun e w' => e = .returned (.bool (rowOf L z).isSome) ∧ ∃ F', AP P r m Q1 Q2 F' (takeL L z) c m1 m2 b1 b2 p num w' ∧ Stp (allF F) (allF F') w w' := by
  refine (at_take h.rows z hz).mono ?_
  rintro e w' ⟨he, X, k, g⟩
  exact ⟨he, _, h.goR k g⟩
theorem ap_addA (h : AP P r m Q1 Q2 F L c m1 m2 b1 b2 p num w) (z : Int) (hz : u64ok z) (hl : b1.length < 4194304) :
    Calls Try.prog 44 #[.pointer (some ⟨Q1, 0, none⟩), .int .u64 z] w fun e w' => e = .returned (.tuple #[]) ∧ ∃ F', AP P r m Q1 Q2 F' L c m1 m2 (Gh.addL m1 b1 z) b2 p num w' ∧ Stp (allF F) (allF F') w w' := by
  refine (Gh.at_add h.g1 z hz hl).mono ?_
  rintro e w' ⟨he, X, k, g⟩
  exact ⟨he, _, h.goA k (gup g)⟩
theorem ap_addB (h : AP P r m Q1 Q2 F L c m1 m2 b1 b2 p num w) (z : Int) (hz : u64ok z) (hl : b2.length < 4194304) :
    Calls Try.prog 44 #[.pointer (some ⟨Q2, 0, none⟩), .int .u64 z] w fun e w' => e = .returned (.tuple #[]) ∧ ∃ F', AP P r m Q1 Q2 F' L c m1 m2 b1 (Gh.addL m2 b2 z) p num w' ∧ Stp (allF F) (allF F') w w' := by
  refine (Gh.at_add h.g2 z hz hl).mono ?_
  rintro e w' ⟨he, X, k, g⟩
  exact ⟨he, _, h.goB k (gup g)⟩
theorem ap_remA (h : AP P r m Q1 Q2 F L c m1 m2 b1 b2 p num w) (z : Int) (hz : u64ok z) :
    Calls Try.prog 63 #[.pointer (some ⟨Q1, 0, none⟩), .int .u64 z] w fun e w' => e = .returned (.bool (decide (z ∈ b1))) ∧ ∃ F', AP P r m Q1 Q2 F' L c m1 m2 (Gh.rmL b1 z) b2 p num w' ∧ Stp (allF F) (allF F') w w' := by
  refine (Gh.at_remove h.g1 z hz).mono ?_
  rintro e w' ⟨he, X, k, g⟩
  exact ⟨he, _, h.goA k (gup g)⟩
theorem ap_remB (h : AP P r m Q1 Q2 F L c m1 m2 b1 b2 p num w) (z : Int) (hz : u64ok z) :
    Calls Try.prog 63 #[.pointer (some ⟨Q2, 0, none⟩), .int .u64 z] w fun e w' => e = .returned (.bool (decide (z ∈ b2))) ∧ ∃ F', AP P r m Q1 Q2 F' L c m1 m2 b1 (Gh.rmL b2 z) p num w' ∧ Stp (allF F) (allF F') w w' := by
  refine (Gh.at_remove h.g2 z hz).mono ?_
  rintro e w' ⟨he, X, k, g⟩
  exact ⟨he, _, h.goB k (gup g)⟩
theorem ap_limA (h : AP P r m Q1 Q2 F L c m1 m2 b1 b2 p num w) (n : Int) :
    Calls Try.prog 38 #[.pointer (some ⟨Q1, 0, none⟩), .int .i64 n] w fun e w' => e = .returned (.tuple #[]) ∧ ∃ F', AP P r m Q1 Q2 F' L c n.toNat m2 (Gh.cutL n.toNat b1) b2 p num w' ∧ Stp (allF F) (allF F') w w' := by
  refine (Gh.at_limit h.g1 n).mono ?_
  rintro e w' ⟨he, X, k, g⟩
  exact ⟨he, _, h.goA k (gup g)⟩
theorem ap_limB (h : AP P r m Q1 Q2 F L c m1 m2 b1 b2 p num w) (n : Int) :
    Calls Try.prog 38 #[.pointer (some ⟨Q2, 0, none⟩), .int .i64 n] w fun e w' => e = .returned (.tuple #[]) ∧ ∃ F', AP P r m Q1 Q2 F' L c m1 n.toNat b1 (Gh.cutL n.toNat b2) p num w' ∧ Stp (allF F) (allF F') w w' := by
  refine (Gh.at_limit h.g2 n).mono ?_
  rintro e w' ⟨he, X, k, g⟩
  exact ⟨he, _, h.goB k (gup g)⟩
end
/-- The program's policy s lies at P, in the blocks G. -/
def AR (P : Nat) (G : Nat → Prop) (s : Ar) (w : World) : Prop :=
  s.Ok ∧ ∃ r m Q1 Q2 F, AP P r m Q1 Q2 F s.L s.m s.m s.m s.b1 s.b2 s.p s.num w ∧ ∀ b, G b ↔ allF F b
theorem AR.ok {P : Nat} {G : Nat → Prop} {s : Ar} {w : World} (h : AR P G s w) : s.Ok := h.1
theorem AR.lt {P : Nat} {G : Nat → Prop} {s : Ar} {w : World} (h : AR P G s w) {b : Nat} (hb : G b) : b < w.heap.size := by
  obtain ⟨_, r, m, Q1, Q2, F, hq, hG⟩ := h
  obtain ⟨i, hi⟩ := (hG b).1 hb
  exact hq.dj.lt i b hi
theorem AR.only {P : Nat} {G D : Nat → Prop} {s : Ar} {w w' : World} (h : AR P G s w) (ho : Only D w w') (hd : ∀ b, G b → ¬ D b) : AR P G s w' := by
  obtain ⟨k, r, m, Q1, Q2, F, hq, hG⟩ := h
  exact ⟨k, r, m, Q1, Q2, F, hq.only ho (fun b hb => hd b ((hG b).2 hb)), hG⟩
theorem AR.below {P : Nat} {G : Nat → Prop} {s : Ar} {w w' : World} (h : AR P G s w) (hb : Below w.heap.size w w') : AR P G s w' := h.only (D := fun _ => False) (Below.only hb) (fun _ _ => id)
theorem ar_go {P r m Q1 Q2 : Nat} {G : Nat → Prop} {F F' : Nat → Nat → Prop} {s : Ar} {w w' : World} (hG : ∀ b, G b ↔ allF F b) (ok : s.Ok) (h : AP P r m Q1 Q2 F' s.L s.m s.m s.m s.b1 s.b2 s.p s.num w') (g : Stp (allF F) (allF F') w w') :
    ∃ G', AR P G' s w' ∧ Stp G G' w w' := ⟨allF F', ⟨ok, r, m, Q1, Q2, F', h, fun _ => Iff.rfl⟩, Stp.into hG g⟩
end Go.Proofs.Ytklmgmkeaipppaa.Ac
