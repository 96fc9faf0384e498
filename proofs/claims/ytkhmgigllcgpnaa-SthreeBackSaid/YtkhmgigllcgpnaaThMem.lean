/-
  The program's three queues: how they lie in memory (the head, the rows, the map of the entries, the ghost), what turns of it and what stays. No program is run in it. No conditions.
-/
import Derived.Test.YtkhmgigllcgpnaaThRefCalls
import Derived.Test.YtkhmgigllcgpnaaM6
import Derived.Maps.OwnSet
namespace Go.Proofs.Ytkhmgigllcgpnaa.Th
open Go Go.RowKit Go.Lib

def u64ok (z : Int) : Prop := 0 ≤ z ∧ z ≤ 18446744073709551615

/-! A map of ints to entries -/
def entV (x n : Int) : Value := .agg #[.int .u64 x, .int .i64 n]
def entD (x n : Int) : DataW Unit := .agg [.lit (.int .u64 x), .lit (.int .i64 n)]
def entElem : Value → Option (DataW Unit × List MemPlace)
  | .agg a => match a.toList with
    | [.int .u64 x, .int .i64 n] => some (entD x n, [])
    | _ => none
  | _ => none
theorem entElem_mk (x n : Int) : entElem (entV x n) = some (entD x n, []) := rfl
theorem entElem_inv {v : Value} {x n : Int} {ps : List MemPlace} (h : entElem v = some (entD x n, ps)) : v = entV x n := by
  unfold entElem at h
  split at h
  · rename_i a
    split at h
    · rename_i y k e
      simp [entD] at h
      obtain ⟨⟨rfl, rfl⟩, _⟩ := h
      unfold entV
      congr 1
      apply Array.ext'
      simpa using e
    · cases h
  · cases h
theorem underEnt : Try.prog.underlying 56 = some (.map 3 64) := Try.underlying56
theorem zeroEnt (w : World) : (zeroValue 64).run Try.prog w = .ok (entV 0 0) w := by kernel_rfl
/-- Block b is a map of ints to entries: S tells who is a key of it; at z stand num z and cnt z, and noughts where z is no key; its keys are few. -/
def EM (w : World) (b : Nat) (S : Int → Bool) (num : Int → Int) (cnt : Int → Nat) : Prop :=
  ∃ (D : DataW Unit) (xs : List Int), w.ownsMap Try.prog 3 entElem b xs.length D ∧ Maps.size D = xs.length ∧ xs.Nodup ∧ (∀ z ∈ xs, 0 ≤ z ∧ z ≤ 4194303) ∧ (∀ z, z ∈ xs ↔ S z = true) ∧
    ∀ z, i64ok z → D.atKey (.int .i64 z) (entD 0 0) = entD (num z) (cnt z) ∧ Maps.has D (.int .i64 z) = S z
theorem ez_exact {w : World} {b n : Nat} {D : DataW Unit} (h : w.ownsMap Try.prog 3 entElem b n D) : w.ownsMap Try.prog 3 entElem b (Maps.size D) D := by
  obtain ⟨es, clock, h1, F, h2, rfl⟩ := h
  refine ⟨es, clock, h1, F, ?_, rfl⟩
  rw [Maps.size_eq, length_sorted]; simp
section
variable {w w' : World} {b : Nat} {S : Int → Bool} {num : Int → Int} {cnt : Int → Nat}
theorem EM.lt (h : EM w b S num cnt) : b < w.heap.size := by obtain ⟨D, xs, h, _⟩ := h; exact h.lt
theorem EM.keep (h : EM w b S num cnt) (hb : w'.heap[b]? = w.heap[b]?) : EM w' b S num cnt := by
  obtain ⟨D, xs, ⟨es, clock, h1, h2⟩, h3⟩ := h
  exact ⟨D, xs, ⟨es, clock, hb.trans h1, h2⟩, h3⟩
theorem EM.only {D : Nat → Prop} (h : EM w b S num cnt) (ho : Only D w w') (hd : ¬ D b) : EM w' b S num cnt := h.keep (ho.block b h.lt hd)
theorem EM.new (w : World) : EM (w.alloc (.map #[] 0)) w.heap.size (fun _ => false) (fun _ => 0) (fun _ => 0) :=
  ⟨.map [], [], World.ownsMap_made w _ _ _, rfl, List.nodup_nil, (fun z hz => by cases hz), (fun z => by simp), fun _ _ => ⟨rfl, rfl⟩⟩
theorem efilt_no {xs : List Int} {z : Int} (h : z ∉ xs) : xs.filter (fun y => decide (y ≠ z)) = xs := List.filter_eq_self.2 (fun _ hy => decide_eq_true (fun e => h (e ▸ hy)))
theorem efilt_len {xs : List Int} (hn : xs.Nodup) {z : Int} : (xs.filter (fun y => decide (y ≠ z))).length = if z ∈ xs then xs.length - 1 else xs.length := by
  by_cases h : z ∈ xs
  · rw [if_pos h]
    induction xs with
    | nil => cases h
    | cons x l ih =>
      have hx := List.nodup_cons.1 hn
      by_cases e : x = z
      · subst e
        rw [List.filter_cons, if_neg (by simp), efilt_no hx.1]; rfl
      · have hz : z ∈ l := by
          rcases List.mem_cons.1 h with e2 | e2
          · exact absurd e2.symm e
          · exact e2
        rw [List.filter_cons, if_pos (by simpa using e), List.length_cons, ih hx.2 hz, List.length_cons]
        have := List.length_pos_of_mem hz
        omega
  · rw [if_neg h, efilt_no h]
/-- A store. -/
theorem EM.put (h : EM w b S num cnt) {z x : Int} (hz : 0 ≤ z ∧ z ≤ 4194303) (n : Nat) :
    ∃ w', (Instr.mapUpdate 56 (.map (some b)) (.int .i64 z) (.agg #[.int .u64 x, .int .i64 (n : Nat)])).run Try.prog w = .ok () w' ∧ EM w' b (updN S z true) (updN num z x) (updN cnt z n) ∧ w.mapTurned w' b := by
  obtain ⟨D, xs, h, hs, hn, hr, hm, hk⟩ := h
  have hzi : i64ok z := by unfold i64ok; omega
  have hl : xs.length ≤ 4194304 := nodup_le 4194304 hn (fun y hy => by have := hr y hy; omega)
  obtain ⟨w', hrun, h1, h2⟩ := h.store (val := .agg #[.int .u64 x, .int .i64 (n : Nat)]) keyInt underEnt (by unfold maxLen; omega) (key_of hzi) (entElem_mk x n)
  have hat : ∀ y, i64ok y → (D.put (.int .i64 z) (entD x n)).atKey (.int .i64 y) (entD 0 0) = entD (updN num z x y) ((updN cnt z n y : Nat)) ∧ Maps.has (D.put (.int .i64 z) (entD x n)) (.int .i64 y) = updN S z true y := fun y hy => by
    by_cases e : y = z
    · subst e
      rw [updN_same, updN_same, updN_same]
      exact ⟨Maps.atKey_put_same h.isMap (k := .int .i64 y) trivial _ _, Maps.has_put_same h.isMap (k := .int .i64 y) trivial _⟩
    · rw [updN_other e, updN_other e, updN_other e, Maps.atKey_put_other (lit_ne e), Maps.has_put_other (lit_ne e)]
      exact hk y hy
  by_cases hmz : z ∈ xs
  · have hsz : Maps.size (D.put (.int .i64 z) (entD x n)) = xs.length := by
      rw [Maps.size_put (h.tidy keyInt), (hk z hzi).2, hs, (hm z).1 hmz]; rfl
    refine ⟨w', hrun, ⟨_, xs, hsz ▸ ez_exact h1, hsz, hn, hr, fun y => ?_, hat⟩, h2⟩
    by_cases e : y = z
    · subst e; rw [updN_same]; exact ⟨fun _ => rfl, fun _ => hmz⟩
    · rw [updN_other e]; exact hm y
  · have hf : S z = false := by
      cases e : S z
      · rfl
      · exact absurd ((hm z).2 e) hmz
    have hsz : Maps.size (D.put (.int .i64 z) (entD x n)) = (z :: xs).length := by
      rw [Maps.size_put (h.tidy keyInt), (hk z hzi).2, hs, hf]; rfl
    refine ⟨w', hrun, ⟨_, z :: xs, hsz ▸ ez_exact h1, hsz, List.nodup_cons.2 ⟨hmz, hn⟩, fun y hy => ?_, fun y => ?_, hat⟩, h2⟩
    · rcases List.mem_cons.1 hy with rfl | hy
      · exact hz
      · exact hr y hy
    · by_cases e : y = z
      · subst e; rw [updN_same]; simp
      · rw [updN_other e, ← hm y]; simp [e]
/-- A deletion. -/
theorem EM.del (h : EM w b S num cnt) {z : Int} (hz : i64ok z) (ty : TypeId) :
    ∃ w', (Builtin.delete_ #[56, 3] ty #[.map (some b), .int .i64 z]).run Try.prog w = .ok (.tuple #[]) w' ∧ EM w' b (updN S z false) (updN num z 0) (updN cnt z 0) ∧ w.mapTurned w' b := by
  obtain ⟨D, xs, h, hs, hn, hr, hm, hk⟩ := h
  obtain ⟨w', hrun, h1, h2⟩ := h.drop keyInt underEnt (key_of hz) ty
  have hsz : Maps.size (D.del (.int .i64 z)) = (xs.filter (fun y => decide (y ≠ z))).length := by
    have := Maps.size_del (k := .int .i64 z) (h.tidy keyInt)
    rw [(hk z hz).2, hs] at this
    rw [efilt_len hn]
    by_cases e : z ∈ xs
    · rw [(hm z).1 e] at this
      rw [if_pos e]
      simp at this; omega
    · rw [show S z = false by
        cases e2 : S z
        · rfl
        · exact absurd ((hm z).2 e2) e] at this
      rw [if_neg e]
      simpa using this
  refine ⟨w', hrun, ⟨_, _, hsz ▸ ez_exact h1, hsz, hn.filter _, fun y hy => hr y (List.mem_filter.1 hy).1, fun y => ?_, fun y hy => ?_⟩, h2⟩
  · by_cases e : y = z
    · subst e; rw [updN_same]; simp
    · rw [updN_other e, ← hm y]; simp [e]
  · by_cases e : y = z
    · subst e
      rw [updN_same, updN_same, updN_same, Maps.atKey_del_same, Maps.has_del_same]
      exact ⟨rfl, rfl⟩
    · rw [updN_other e, updN_other e, updN_other e, Maps.atKey_del_other (lit_ne e), Maps.has_del_other (lit_ne e)]
      exact hk y hy
/-- A look-up, as a run. -/
theorem EM.look (h : EM w b S num cnt) {z : Int} (hz : i64ok z) : (Instr.lookup 56 (.map (some b)) (.int .i64 z) false).run Try.prog w = .ok (.agg #[.int .u64 (num z), .int .i64 (cnt z : Nat)]) w := by
  obtain ⟨D, xs, h, _, _, _, _, hk⟩ := h
  obtain ⟨v, ps, hrun, hv⟩ := h.lookup keyInt underEnt (zeroEnt w) (entElem_mk 0 0) (key_of hz)
  rw [(hk z hz).1] at hv
  rw [hrun, entElem_inv hv]; rfl
theorem EM.lookOk (h : EM w b S num cnt) {z : Int} (hz : i64ok z) : (Instr.lookup 56 (.map (some b)) (.int .i64 z) true).run Try.prog w = .ok (.tuple #[.agg #[.int .u64 (num z), .int .i64 (cnt z : Nat)], .bool (S z)]) w := by
  obtain ⟨D, xs, h, _, _, _, _, hk⟩ := h
  obtain ⟨v, ps, hrun, hv⟩ := h.look_ok keyInt underEnt (zeroEnt w) (entElem_mk 0 0) (key_of hz)
  rw [(hk z hz).1] at hv
  rw [hrun, entElem_inv hv, (hk z hz).2]; rfl
end

/-! At the operation, for the walk -/
section
variable {w : World} {ops : Array Oper} {rest : List Oper} {o : Oper} {a : Act} {Q : Exit → Act → World → Prop} {b : Nat} {S : Int → Bool} {num : Int → Int} {cnt : Int → Nat}
theorem wpList_em_put (hg : o.guard = none) (m x v : Operand) (hop : o.op = Op.mapUpdate 56 m x v) (hm : a.eval m = .map (some b)) (h : Hid (EM w b S num cnt))
    {z y : Int} {n : Nat} {j : Int} (hx : a.eval x = .int .i64 z) (hv : a.eval v = .agg #[.int .u64 y, .int .i64 j]) (hz : Hid ((0 ≤ z ∧ z ≤ 4194303) ∧ j = (n : Int)))
    (hK : ∀ w', Hid (EM w' b (updN S z true) (updN num z y) (updN cnt z n)) → Hid (w.mapTurned w' b) → wpList Try.prog ops Q rest (a.put o.dst undef) w') : wpList Try.prog ops Q (o :: rest) a w := by
  refine wpList_plain hg fun K' hK' => ?_
  obtain ⟨hz1, hz2⟩ := hz.out
  subst hz2
  obtain ⟨w', hrun, r1, r2⟩ := h.out.put (x := y) hz1 n
  unfold Oper.wp
  simp [execOp, hop, hm, hx, hv, hrun, Result.andThen]
  exact hK' _ _ (hK w' (hid r1) (hid r2))
theorem wpList_em_del (hg : o.guard = none) (m x : Operand) (hop : o.op = Op.call { callee := Callee.builtin Builtin.delete, args := #[m, x], argTypes := #[56, 3] }) (hm : a.eval m = .map (some b)) (h : Hid (EM w b S num cnt))
    {z : Int} (hx : a.eval x = .int .i64 z) (hz : Hid (i64ok z))
    (hK : ∀ w', Hid (EM w' b (updN S z false) (updN num z 0) (updN cnt z 0)) → Hid (w.mapTurned w' b) → wpList Try.prog ops Q rest (a.put o.dst (.tuple #[])) w') : wpList Try.prog ops Q (o :: rest) a w := by
  refine wpList_plain hg fun K' hK' => ?_
  obtain ⟨w', hrun, r1, r2⟩ := h.out.del hz.out o.type
  unfold Oper.wp
  simp [execOp, hop, resolve, invoke, builtin, hm, hx, hrun, Result.andThen]
  exact hK' _ _ (hK w' (hid r1) (hid r2))
theorem wpList_em_look (hg : o.guard = none) (m x : Operand) (c : Bool) (hop : o.op = Op.lookup 56 m x c) (hm : a.eval m = .map (some b)) {z : Int} (hx : a.eval x = .int .i64 z) {v : Value}
    (hr : (Instr.lookup 56 (.map (some b)) (.int .i64 z) c).run Try.prog w = .ok v w)
    (hK : wpList Try.prog ops Q rest (a.put o.dst v) w) : wpList Try.prog ops Q (o :: rest) a w := by
  refine wpList_plain hg fun K' hK' => ?_
  unfold Oper.wp
  simp [execOp, hop, hm, hx, hr, Result.andThen]
  exact hK' _ _ hK
end

theorem gup {F F' : Nat → Prop} {w w' : World} (h : Gh.Stp F F' w w') : Stp F F' w w' := ⟨h.only, h.foot⟩
theorem take_front {L : List (List Int)} {i : Nat} {z : Int} : takeL (frontL L i z) z = takeL L z := by
  have hM : takeL (takeL L z) z = takeL L z := take_no (fun h => (mem_take.1 h).2 rfl)
  unfold frontL
  generalize takeL L z = M at *
  have h1 : takeL (M.set i (z :: M[i]?.getD [])) z = (takeL M z).set i ((z :: M[i]?.getD []).filter (fun y => decide (y ≠ z))) := by simp [takeL, List.map_set]
  rw [h1, hM, List.filter_cons, if_neg (by simp)]
  by_cases hi : i < M.length
  · have h2 : M[i].filter (fun y => decide (y ≠ z)) = M[i] := by
      have h3 := congrArg (fun X => X[i]?) hM
      simpa [takeL, hi] using h3
    rw [List.getElem?_eq_getElem hi]
    show M.set i (M[i].filter _) = M
    rw [h2]; simp
  · rw [List.set_eq_of_length_le (by omega)]
theorem opF_twice {L : List (List Int)} {z : Int} (h0 : May L.length 0 z) (h1 : May L.length 1 z) : opFront (opFront L 0 z) 1 z = opFront L 1 z := by
  rw [opFront_yes h0, opFront_yes h1, opFront_yes (by show May (frontL L 0 z).length 1 z; rw [show (frontL L 0 z).length = L.length by unfold frontL; simp [takeL_len]]; exact h1)]
  show frontL (frontL L 0 z) 1 z = frontL L 1 z
  show (takeL (frontL L 0 z) z).set 1 (z :: (takeL (frontL L 0 z) z)[1]?.getD []) = _
  rw [take_front]; rfl

/-! The program's own -/
/-- Its head lies at P, the rows at r, the map of the entries at m, the ghost at Q: four parts. -/
structure TM (P r m Q : Nat) (F : Nat → Nat → Prop) (L : List (List Int)) (c mm : Nat) (g : List Int) (S : Int → Bool) (num : Int → Int) (cnt : Int → Nat) (w : World) : Prop where
  head : Blk w P 60 [.pointer (some ⟨r, 0, none⟩), .map (some m), .pointer (some ⟨Q, 0, none⟩), .int .i64 c]
  rows : RAt r (F 1) L w
  map : EM w m S num cnt
  gh : Gh.GAt Q (F 3) mm g w
  nok : ∀ z, u64ok (num z)
  f0 : ∀ b, F 0 b ↔ b = P
  f2 : ∀ b, F 2 b ↔ b = m
  f4 : ∀ i b, 4 ≤ i → ¬ F i b
  dj : Dj F w
section
variable {P r m Q : Nat} {F : Nat → Nat → Prop} {L : List (List Int)} {c mm : Nat} {g : List Int} {S : Int → Bool} {num : Int → Int} {cnt : Int → Nat} {w w' : World}
theorem TM.only {D : Nat → Prop} (h : TM P r m Q F L c mm g S num cnt w) (ho : Only D w w') (hd : ∀ b, allF F b → ¬ D b) : TM P r m Q F L c mm g S num cnt w' :=
  ⟨h.head.only ho (hd P ⟨0, (h.f0 P).2 rfl⟩), h.rows.only ho (fun b hb => hd b ⟨1, hb⟩), h.map.only ho (hd m ⟨2, (h.f2 m).2 rfl⟩), h.gh.only ho (fun b hb => hd b ⟨3, hb⟩), h.nok, h.f0, h.f2, h.f4, h.dj.keep ho.size⟩
theorem TM.below (h : TM P r m Q F L c mm g S num cnt w) (hb : Below w.heap.size w w') : TM P r m Q F L c mm g S num cnt w' := h.only (D := fun _ => False) (Below.only hb) (fun _ _ => id)
/-- The rows turned. -/
theorem TM.goR {X : Nat → Prop} {L' : List (List Int)} (h : TM P r m Q F L c mm g S num cnt w) (k : RAt r X L' w') (s : Stp (F 1) X w w') : TM P r m Q (setF F 1 X) L' c mm g S num cnt w' ∧ Stp (allF F) (allF (setF F 1 X)) w w' :=
  ⟨⟨h.head.only s.only (h.dj.out (i := 0) (by decide) P ((h.f0 P).2 rfl)), by rw [setF_same]; exact k, h.map.only s.only (h.dj.out (i := 2) (by decide) m ((h.f2 m).2 rfl)), by rw [setF_other (by decide)]; exact h.gh.only s.only (h.dj.out (by decide)),
    h.nok, by rw [setF_other (by decide)]; exact h.f0, by rw [setF_other (by decide)]; exact h.f2, fun i b hi => by rw [setF_other (by omega)]; exact h.f4 i b hi, h.dj.step s (fun b hb => k.lt hb)⟩, s.part⟩
/-- The ghost turned. -/
theorem TM.goG {X : Nat → Prop} {g' : List Int} {mm' : Nat} (h : TM P r m Q F L c mm g S num cnt w) (k : Gh.GAt Q X mm' g' w') (s : Stp (F 3) X w w') : TM P r m Q (setF F 3 X) L c mm' g' S num cnt w' ∧ Stp (allF F) (allF (setF F 3 X)) w w' :=
  ⟨⟨h.head.only s.only (h.dj.out (i := 0) (by decide) P ((h.f0 P).2 rfl)), by rw [setF_other (by decide)]; exact h.rows.only s.only (h.dj.out (by decide)), h.map.only s.only (h.dj.out (i := 2) (by decide) m ((h.f2 m).2 rfl)), by rw [setF_same]; exact k,
    h.nok, by rw [setF_other (by decide)]; exact h.f0, by rw [setF_other (by decide)]; exact h.f2, fun i b hi => by rw [setF_other (by omega)]; exact h.f4 i b hi, h.dj.step s (fun b hb => k.lt hb)⟩, s.part⟩
/-- The map turned. -/
theorem TM.goE {S' : Int → Bool} {num' : Int → Int} {cnt' : Int → Nat} (h : TM P r m Q F L c mm g S num cnt w) (k : EM w' m S' num' cnt') (t : w.mapTurned w' m) (nok : ∀ z, u64ok (num' z)) : TM P r m Q F L c mm g S' num' cnt' w' ∧ Stp (allF F) (allF F) w w' := by
  have ho : Only (F 2) w w' := Only.map t ((h.f2 m).2 rfl)
  exact ⟨⟨h.head.only ho (h.dj.out (i := 0) (by decide) P ((h.f0 P).2 rfl)), h.rows.only ho (h.dj.out (by decide)), k, h.gh.only ho (h.dj.out (by decide)), nok, h.f0, h.f2, h.f4, h.dj.keep ho.size⟩, ho.mono (fun b hb => ⟨2, hb⟩), fun b hb => .inl hb⟩
theorem TM.hdOnly (h : TM P r m Q F L c mm g S num cnt w) (k : Nat) (u : Value) : Only (F 0) w (w.setCell ⟨P, k, none⟩ u) := (Only.refl _ _).setCell (p := ⟨P, k, none⟩) (.inl ((h.f0 P).2 rfl)) u
/-- The bound turned. -/
theorem TM.goM (h : TM P r m Q F L c mm g S num cnt w) (c' : Nat) : TM P r m Q F L c' mm g S num cnt (w.setCell ⟨P, 3, none⟩ (.int .i64 c')) ∧ Stp (allF F) (allF F) w (w.setCell ⟨P, 3, none⟩ (.int .i64 c')) := by
  have ho := h.hdOnly 3 (.int .i64 c')
  exact ⟨⟨h.head.set 3 (.int .i64 c'), h.rows.only ho (h.dj.out (by decide)), h.map.only ho (h.dj.out (i := 2) (by decide) m ((h.f2 m).2 rfl)), h.gh.only ho (h.dj.out (by decide)), h.nok, h.f0, h.f2, h.f4, h.dj.keep ho.size⟩, ho.mono (fun b hb => ⟨0, hb⟩), fun b hb => .inl hb⟩

/-! What the parts' calls make of it -/
theorem tm_front (h : TM P r m Q F L c mm g S num cnt w) (i z : Int) (hz : i64ok z) :
    Calls Try.prog 40 #[.pointer (some ⟨r, 0, none⟩), .int .i64 i, .int .i64 z] w fun e w' => e = .returned (.bool (decide (May L.length i z))) ∧ ∃ F', TM P r m Q F' (opFront L i z) c mm g S num cnt w' ∧ Stp (allF F) (allF F') w w' := by
  refine (at_front h.rows i z hz).mono ?_
  rintro e w' ⟨he, X, k, g⟩
  exact ⟨he, _, h.goR k g⟩
theorem tm_take (h : TM P r m Q F L c mm g S num cnt w) (z : Int) (hz : i64ok z) :
    Calls Try.prog 48 #[.pointer (some ⟨r, 0, none⟩), .int .i64 z] w fun e w' => e = .returned (.bool (rowOf L z).isSome) ∧ ∃ F', TM P r m Q F' (takeL L z) c mm g S num cnt w' ∧ Stp (allF F) (allF F') w w' := by
  refine (at_take h.rows z hz).mono ?_
  rintro e w' ⟨he, X, k, g⟩
  exact ⟨he, _, h.goR k g⟩
theorem tm_add (h : TM P r m Q F L c mm g S num cnt w) (z : Int) (hz : u64ok z) (hl : g.length < 4194304) :
    Calls Try.prog 45 #[.pointer (some ⟨Q, 0, none⟩), .int .u64 z] w fun e w' => e = .returned (.tuple #[]) ∧ ∃ F', TM P r m Q F' L c mm (Gh.addL mm g z) S num cnt w' ∧ Stp (allF F) (allF F') w w' := by
  refine (Gh.at_add h.gh z hz hl).mono ?_
  rintro e w' ⟨he, X, k, g⟩
  exact ⟨he, _, h.goG k (gup g)⟩
theorem tm_rmG (h : TM P r m Q F L c mm g S num cnt w) (z : Int) (hz : u64ok z) :
    Calls Try.prog 41 #[.pointer (some ⟨Q, 0, none⟩), .int .u64 z] w fun e w' => e = .returned (.bool (decide (z ∈ g))) ∧ ∃ F', TM P r m Q F' L c mm (Gh.rmL g z) S num cnt w' ∧ Stp (allF F) (allF F') w w' := by
  refine (Gh.at_remove h.gh z hz).mono ?_
  rintro e w' ⟨he, X, k, g⟩
  exact ⟨he, _, h.goG k (gup g)⟩
theorem tm_lim (h : TM P r m Q F L c mm g S num cnt w) (n : Int) :
    Calls Try.prog 38 #[.pointer (some ⟨Q, 0, none⟩), .int .i64 n] w fun e w' => e = .returned (.tuple #[]) ∧ ∃ F', TM P r m Q F' L c n.toNat (Gh.cutL n.toNat g) S num cnt w' ∧ Stp (allF F) (allF F') w w' := by
  refine (Gh.at_limit h.gh n).mono ?_
  rintro e w' ⟨he, X, k, g⟩
  exact ⟨he, _, h.goG k (gup g)⟩
end
/-- The program's queues s lie at P, in the blocks G. -/
def TP (P : Nat) (G : Nat → Prop) (s : Th) (w : World) : Prop :=
  s.Ok ∧ ∃ r m Q F, TM P r m Q F s.L s.m s.m s.g s.has s.num s.cnt w ∧ ∀ b, G b ↔ allF F b
theorem TP.ok {P : Nat} {G : Nat → Prop} {s : Th} {w : World} (h : TP P G s w) : s.Ok := h.1
theorem TP.lt {P : Nat} {G : Nat → Prop} {s : Th} {w : World} (h : TP P G s w) {b : Nat} (hb : G b) : b < w.heap.size := by
  obtain ⟨_, r, m, Q, F, hq, hG⟩ := h
  obtain ⟨i, hi⟩ := (hG b).1 hb
  exact hq.dj.lt i b hi
theorem TP.only {P : Nat} {G D : Nat → Prop} {s : Th} {w w' : World} (h : TP P G s w) (ho : Only D w w') (hd : ∀ b, G b → ¬ D b) : TP P G s w' := by
  obtain ⟨k, r, m, Q, F, hq, hG⟩ := h
  exact ⟨k, r, m, Q, F, hq.only ho (fun b hb => hd b ((hG b).2 hb)), hG⟩
theorem TP.below {P : Nat} {G : Nat → Prop} {s : Th} {w w' : World} (h : TP P G s w) (hb : Below w.heap.size w w') : TP P G s w' := h.only (D := fun _ => False) (Below.only hb) (fun _ _ => id)
theorem tp_go {P r m Q : Nat} {G : Nat → Prop} {F F' : Nat → Nat → Prop} {s : Th} {w w' : World} (hG : ∀ b, G b ↔ allF F b) (ok : s.Ok) (h : TM P r m Q F' s.L s.m s.m s.g s.has s.num s.cnt w') (g : Stp (allF F) (allF F') w w') :
    ∃ G', TP P G' s w' ∧ Stp G G' w w' := ⟨allF F', ⟨ok, r, m, Q, F', h, fun _ => Iff.rfl⟩, ⟨g.only.mono (fun b hb => (hG b).2 hb), fun b hb => (g.foot b hb).imp (hG b).2 id⟩⟩
theorem abelow (w : World) (o : Obj) : Below w.heap.size w (w.alloc o) := (Below.refl _ _).alloc (Nat.le_refl _) o
theorem has_in {s : Th} {z : Int} : s.has z = true ↔ z ∈ s.L.flatten := arow_some
theorem has_may {s : Th} (ok : s.Ok) {z : Int} (h : s.has z = true) : (0 ≤ z ∧ z ≤ 4194303) ∧ ∀ r, 0 ≤ r → r < 2 → May s.L.length r z := by
  have hm := ok.good.rng z (arow_some.1 h)
  exact ⟨hm, fun r h0 h1 => may2 ok.two h0 h1 (decide_eq_true hm)⟩
theorem upd_ok {num : Int → Int} (h : ∀ z, u64ok (num z)) {z x : Int} (hx : u64ok x) : ∀ y, u64ok (updN num z x y) := fun y => by
  by_cases e : y = z
  · rw [e, updN_same]; exact hx
  · rw [updN_other e]; exact h y
end Go.Proofs.Ytkhmgigllcgpnaa.Th
