/-
  The program's segmented row: how it lies in memory (its head, the rows, the map of who is active), what turns of it and what stays. No program is run in it. No conditions.
-/
import Derived.Test.YtenncmjokdacoaaDoorSegFacts
import Derived.Test.YtenncmjokdacoaaDoorPolParts
namespace Go.Proofs.YtenncmjokdacoaaDoor.Sr
open Go Go.RowKit Go.Lib

/-! A set of ints -/
theorem underSet : Tryd.prog.underlying 46 = some (.map 3 53) := Tryd.underlying46
theorem zeroUnit (w : World) : (zeroValue 53).run Tryd.prog w = .ok (.agg #[]) w := by kernel_rfl
/-- Block b is a set of c ints: those that f tells. -/
def UM (w : World) (b c : Nat) (f : Int → Bool) : Prop :=
  ∃ D : DataW Unit, w.ownsMap Tryd.prog 3 unitElem b c D ∧ Maps.size D = c ∧ ∀ z, i64ok z → Maps.has D (.int .i64 z) = f z
theorem uz_exact {w : World} {b n : Nat} {D : DataW Unit} (h : w.ownsMap Tryd.prog 3 unitElem b n D) : w.ownsMap Tryd.prog 3 unitElem b (Maps.size D) D := by
  obtain ⟨es, clock, h1, F, h2, rfl⟩ := h
  refine ⟨es, clock, h1, F, ?_, rfl⟩
  rw [Maps.size_eq, length_sorted]; simp
theorem UM.lt {w : World} {b c : Nat} {f : Int → Bool} (h : UM w b c f) : b < w.heap.size := by obtain ⟨D, h, _⟩ := h; exact h.lt
theorem UM.keep {w w' : World} {b c : Nat} {f : Int → Bool} (h : UM w b c f) (hb : w'.heap[b]? = w.heap[b]?) : UM w' b c f := by
  obtain ⟨D, ⟨es, clock, h1, h2⟩, h3⟩ := h
  exact ⟨D, ⟨es, clock, hb.trans h1, h2⟩, h3⟩
theorem UM.only {D : Nat → Prop} {w w' : World} {b c : Nat} {f : Int → Bool} (h : UM w b c f) (ho : Only D w w') (hd : ¬ D b) : UM w' b c f := h.keep (ho.block b h.lt hd)
theorem UM.new (w : World) : UM (w.alloc (.map #[] 0)) w.heap.size 0 (fun _ => false) :=
  ⟨.map [], World.ownsMap_made w _ _ _, rfl, fun _ _ => rfl⟩
theorem UM.notBlk {w : World} {b c : Nat} {f : Int → Bool} (h : UM w b c f) {t : TypeId} {cs : List Value} : ¬ Blk w b t cs := fun hb => by
  obtain ⟨D, ⟨es, clock, h1, _⟩, _⟩ := h
  have hb' : w.heap[b]? = some (.cells cs.toArray t (0, 0)) := hb
  rw [h1] at hb'; cases hb'
/-- What a set's store and deletion make of its size. -/
theorem UM.put {w : World} {b c : Nat} {f : Int → Bool} (h : UM w b c f) {z : Int} (hz : i64ok z) (hc : c ≤ 4194304) :
    ∃ w', (Instr.mapUpdate 46 (.map (some b)) (.int .i64 z) (.agg #[])).run Tryd.prog w = .ok () w' ∧ UM w' b (if f z then c else c + 1) (updB f z true) ∧ w.mapTurned w' b := by
  obtain ⟨D, h, hs, hk⟩ := h
  obtain ⟨w', hr, h1, h2⟩ := h.store (val := .agg #[]) keyInt underSet (by unfold maxLen; omega) (key_of hz) unitElem_mk
  have hsz : Maps.size (D.put (.int .i64 z) (.agg [])) = if f z then c else c + 1 := by
    rw [Maps.size_put (h.tidy keyInt), hk z hz, hs]
  refine ⟨w', hr, ⟨_, hsz ▸ uz_exact h1, hsz, fun y hy => ?_⟩, h2⟩
  by_cases e : y = z
  · subst e
    rw [updB_same]
    exact Maps.has_put_same h.isMap (k := .int .i64 y) trivial _
  · rw [updB_other e, Maps.has_put_other (lit_ne e)]
    exact hk y hy
theorem UM.del {w : World} {b c : Nat} {f : Int → Bool} (h : UM w b c f) {z : Int} (hz : i64ok z) (ty : TypeId) :
    ∃ w', (Builtin.delete_ #[46, 3] ty #[.map (some b), .int .i64 z]).run Tryd.prog w = .ok (.tuple #[]) w' ∧ UM w' b (if f z then c - 1 else c) (updB f z false) ∧ w.mapTurned w' b := by
  obtain ⟨D, h, hs, hk⟩ := h
  obtain ⟨w', hr, h1, h2⟩ := h.drop keyInt underSet (key_of hz) ty
  have hsz : Maps.size (D.del (.int .i64 z)) = if f z then c - 1 else c := by
    have := Maps.size_del (k := .int .i64 z) (h.tidy keyInt)
    rw [hk z hz, hs] at this
    cases e : f z
    · rw [e] at this; simpa using this
    · rw [e] at this; simp at this ⊢; omega
  refine ⟨w', hr, ⟨_, hsz ▸ uz_exact h1, hsz, fun y hy => ?_⟩, h2⟩
  by_cases e : y = z
  · subst e
    rw [updB_same, Maps.has_del_same]
  · rw [updB_other e, Maps.has_del_other (lit_ne e)]
    exact hk y hy

/-! At the operation, for the walk -/
section
variable {w : World} {ops : Array Oper} {rest : List Oper} {o : Oper} {a : Act} {Q : Exit → Act → World → Prop}
theorem wpList_um_put (hg : o.guard = none) (m x v : Operand) (hop : o.op = Op.mapUpdate 46 m x v) {b c : Nat} {f : Int → Bool} (hm : a.eval m = .map (some b)) (h : Hid (UM w b c f))
    {z : Int} (hx : a.eval x = .int .i64 z) (hv : a.eval v = .agg #[]) (hz : Hid (i64ok z ∧ c ≤ 4194304))
    (hK : ∀ w', Hid (UM w' b (if f z then c else c + 1) (updB f z true)) → Hid (w.mapTurned w' b) → wpList Tryd.prog ops Q rest (a.put o.dst undef) w') : wpList Tryd.prog ops Q (o :: rest) a w := by
  refine wpList_plain hg fun K' hK' => ?_
  obtain ⟨w', hrun, r1, r2⟩ := h.out.put hz.out.1 hz.out.2
  unfold Oper.wp
  simp [execOp, hop, hm, hx, hv, hrun, Result.andThen]
  exact hK' _ _ (hK w' (hid r1) (hid r2))
theorem wpList_um_del (hg : o.guard = none) (m x : Operand) (hop : o.op = Op.call { callee := Callee.builtin Builtin.delete, args := #[m, x], argTypes := #[46, 3] }) {b c : Nat} {f : Int → Bool} (hm : a.eval m = .map (some b)) (h : Hid (UM w b c f))
    {z : Int} (hx : a.eval x = .int .i64 z) (hz : Hid (i64ok z))
    (hK : ∀ w', Hid (UM w' b (if f z then c - 1 else c) (updB f z false)) → Hid (w.mapTurned w' b) → wpList Tryd.prog ops Q rest (a.put o.dst (.tuple #[])) w') : wpList Tryd.prog ops Q (o :: rest) a w := by
  refine wpList_plain hg fun K' hK' => ?_
  obtain ⟨w', hrun, r1, r2⟩ := h.out.del hz.out o.type
  unfold Oper.wp
  simp [execOp, hop, resolve, invoke, builtin, hm, hx, hrun, Result.andThen]
  exact hK' _ _ (hK w' (hid r1) (hid r2))
theorem wpList_um_look (hg : o.guard = none) (m x : Operand) (hop : o.op = Op.lookup 46 m x true) {b c : Nat} {f : Int → Bool} (hm : a.eval m = .map (some b)) (h : Hid (UM w b c f))
    {z : Int} (hx : a.eval x = .int .i64 z) (hz : Hid (i64ok z)) {B : Bool} (hB : Hid (f z = B))
    (hK : wpList Tryd.prog ops Q rest (a.put o.dst (.tuple #[.agg #[], .bool B])) w) : wpList Tryd.prog ops Q (o :: rest) a w := by
  obtain ⟨D, h1, _, h2⟩ := h.out
  have e := (h2 z hz.out).trans hB.out
  exact wpList_lookup_own_unit w hg m x _ hop _ _ keyInt underSet (zeroUnit w) b c D hm h1 _ (.int .i64 z) hx (key_of hz.out) (by rw [e]; exact hK)
end

/-! The program's own -/
/-- The head lies at P, the rows at r in the blocks R, the set of who is active (xs are they) at m. -/
structure SP (P r m : Nat) (R : Nat → Prop) (L : List (List Int)) (xs : List Int) (a : Int → Bool) (w : World) : Prop where
  head : Blk w P 50 [.pointer (some ⟨r, 0, none⟩), .map (some m)]
  rows : RAt r R L w
  set : UM w m xs.length a
  nd : xs.Nodup
  iff : ∀ z, z ∈ xs ↔ a z = true
  outP : ¬ R P
  outM : ¬ R m
def SF (P m : Nat) (R : Nat → Prop) (b : Nat) : Prop := b = P ∨ b = m ∨ R b
section
variable {P r m : Nat} {R R' : Nat → Prop} {L L' : List (List Int)} {xs : List Int} {a : Int → Bool} {w w' : World}
theorem SP.ne (h : SP P r m R L xs a w) : P ≠ m := fun e => h.set.notBlk (e ▸ h.head)
theorem SP.lt (h : SP P r m R L xs a w) {b : Nat} (hb : SF P m R b) : b < w.heap.size := by
  rcases hb with rfl | rfl | hb
  · exact h.head.lt
  · exact h.set.lt
  · exact h.rows.lt hb
theorem SP.only {D : Nat → Prop} (h : SP P r m R L xs a w) (ho : Only D w w') (hd : ∀ b, SF P m R b → ¬ D b) : SP P r m R L xs a w' :=
  ⟨h.head.only ho (hd _ (.inl rfl)), h.rows.only ho (fun b hb => hd b (.inr (.inr hb))), h.set.only ho (hd _ (.inr (.inl rfl))), h.nd, h.iff, h.outP, h.outM⟩
theorem SP.below (h : SP P r m R L xs a w) (hb : Below w.heap.size w w') : SP P r m R L xs a w' := h.only (D := fun _ => False) (Below.only hb) (fun _ _ => id)
/-- The rows turned. -/
theorem SP.go (h : SP P r m R L xs a w) (k : RAt r R' L' w') (g : Stp R R' w w') : SP P r m R' L' xs a w' ∧ Stp (SF P m R) (SF P m R') w w' := by
  have hno : ∀ b, b < w.heap.size → ¬ R b → ¬ R' b := fun b hb hn hq => (g.foot b hq).elim hn (fun e => absurd hb (Nat.not_lt.2 e))
  refine ⟨⟨h.head.only g.only h.outP, k, h.set.only g.only h.outM, h.nd, h.iff, hno P h.head.lt h.outP, hno m h.set.lt h.outM⟩, ⟨g.only.mono (fun b hb => .inr (.inr hb)), fun b hb => ?_⟩⟩
  rcases hb with hb | hb | hb
  · exact .inl (.inl hb)
  · exact .inl (.inr (.inl hb))
  · exact (g.foot b hb).imp (fun e => .inr (.inr e)) id
/-- The set turned. -/
theorem SP.turn (h : SP P r m R L xs a w) {ys : List Int} {a' : Int → Bool} {c : Nat} (hu : UM w' m c a') (ht : w.mapTurned w' m) (hc : ys.length = c) (hn : ys.Nodup) (hi : ∀ z, z ∈ ys ↔ a' z = true) : SP P r m R L ys a' w' ∧ Stp (SF P m R) (SF P m R) w w' := by
  have ho : Only (fun b => b = m) w w' := Only.map ht rfl
  refine ⟨⟨h.head.only ho h.ne, h.rows.only ho (fun b hb e => h.outM (e ▸ hb)), hc ▸ hu, hn, hi, h.outP, h.outM⟩, ⟨ho.mono (fun b hb => .inr (.inl hb)), fun b hb => .inl hb⟩⟩
theorem filt_len {xs : List Int} (hn : xs.Nodup) {z : Int} : (xs.filter (fun y => decide (y ≠ z))).length = if z ∈ xs then xs.length - 1 else xs.length := by
  by_cases h : z ∈ xs
  · rw [if_pos h]
    induction xs with
    | nil => cases h
    | cons x l ih =>
      have hx := List.nodup_cons.1 hn
      by_cases e : x = z
      · subst e
        rw [List.filter_cons, if_neg (by simp), filt_no hx.1]; rfl
      · have hz : z ∈ l := by
          rcases List.mem_cons.1 h with e2 | e2
          · exact absurd e2.symm e
          · exact e2
        rw [List.filter_cons, if_pos (by simpa using e), List.length_cons, ih hx.2 hz, List.length_cons]
        have := List.length_pos_of_mem hz
        omega
  · rw [if_neg h, filt_no h]
/-- One is taken out of the set. -/
theorem SP.del (h : SP P r m R L xs a w) {z : Int} (hu : UM w' m (if a z then xs.length - 1 else xs.length) (updB a z false)) (ht : w.mapTurned w' m) :
    SP P r m R L (xs.filter (fun y => decide (y ≠ z))) (updB a z false) w' ∧ Stp (SF P m R) (SF P m R) w w' := by
  refine h.turn hu ht ?_ (h.nd.filter _) (fun y => ?_)
  · rw [filt_len h.nd]
    cases e : a z
    · rw [if_neg (fun hm => by rw [(h.iff z).1 hm] at e; cases e)]; rfl
    · rw [if_pos ((h.iff z).2 e)]; rfl
  · rw [List.mem_filter, h.iff y]
    by_cases e : y = z
    · rw [e, updB_same]; simp
    · rw [updB_other e]; simp [e]
/-- One is put into the set. -/
theorem SP.put (h : SP P r m R L xs a w) {z : Int} (hu : UM w' m (if a z then xs.length else xs.length + 1) (updB a z true)) (ht : w.mapTurned w' m) :
    ∃ ys, SP P r m R L ys (updB a z true) w' ∧ Stp (SF P m R) (SF P m R) w w' := by
  cases e : a z
  · rw [e] at hu
    have hz : z ∉ xs := fun hm => by rw [(h.iff z).1 hm] at e; cases e
    obtain ⟨k1, k2⟩ := h.turn (ys := z :: xs) hu ht rfl (List.nodup_cons.2 ⟨hz, h.nd⟩) (fun y => by
      rw [List.mem_cons, h.iff y]
      by_cases e2 : y = z
      · rw [e2, updB_same]; simp
      · rw [updB_other e2]; simp [e2])
    exact ⟨_, k1, k2⟩
  · rw [e] at hu
    obtain ⟨k1, k2⟩ := h.turn (ys := xs) hu ht rfl h.nd (fun y => by
      rw [h.iff y]
      by_cases e2 : y = z
      · rw [e2, updB_same, e]
      · rw [updB_other e2])
    exact ⟨_, k1, k2⟩
end
/-- The program's segmented row s lies at P, in the blocks F. -/
def SA (P : Nat) (F : Nat → Prop) (s : Sg) (w : World) : Prop :=
  s.Ok ∧ ∃ r m R xs, SP P r m R s.L xs s.a w ∧ ∀ b, F b ↔ SF P m R b
theorem SA.ok {P : Nat} {F : Nat → Prop} {s : Sg} {w : World} (h : SA P F s w) : s.Ok := h.1
theorem SA.lt {P : Nat} {F : Nat → Prop} {s : Sg} {w : World} (h : SA P F s w) {b : Nat} (hb : F b) : b < w.heap.size := by
  obtain ⟨_, r, m, R, xs, hp, e⟩ := h
  exact hp.lt ((e b).1 hb)
theorem SA.only {P : Nat} {F D : Nat → Prop} {s : Sg} {w w' : World} (h : SA P F s w) (ho : Only D w w') (hd : ∀ b, F b → ¬ D b) : SA P F s w' := by
  obtain ⟨k, r, m, R, xs, hp, e⟩ := h
  exact ⟨k, r, m, R, xs, hp.only ho (fun b hb => hd b ((e b).2 hb)), e⟩
theorem SA.below {P : Nat} {F : Nat → Prop} {s : Sg} {w w' : World} (h : SA P F s w) (hb : Below w.heap.size w w') : SA P F s w' := h.only (D := fun _ => False) (Below.only hb) (fun _ _ => id)
theorem sa_go {P r m : Nat} {F R R' : Nat → Prop} {w w' : World} {s' : Sg} {L' : List (List Int)} {a' : Int → Bool} {xs' : List Int} (e : ∀ b, F b ↔ SF P m R b) (k : SP P r m R' L' xs' a' w') (g : Stp (SF P m R) (SF P m R') w w') (ok : s'.Ok) (eL : s'.L = L') (ea : s'.a = a') :
    ∃ F', SA P F' s' w' ∧ Stp F F' w w' :=
  ⟨SF P m R', ⟨ok, r, m, R', xs', by rw [eL, ea]; exact k, fun _ => Iff.rfl⟩, ⟨g.only.mono (fun b hb => (e b).2 hb), fun b hb => (g.foot b hb).imp (e b).2 id⟩⟩
theorem sub_len {xs m : List Int} (h : xs.Nodup) (hs : ∀ z ∈ xs, z ∈ m) (hm : ∀ z ∈ m, 0 ≤ z ∧ z ≤ 4194303) : xs.length ≤ 4194304 :=
  nodup_le 4194304 h (fun z hz => by have := hm z (hs z hz); omega)
end Go.Proofs.YtenncmjokdacoaaDoor.Sr
