/-
  The contracts of slices.DeleteFunc and slices.Delete over items that lie in a row of the call's own. Conditions: the row is not over long; the function value answers a plain bool, and leaves the row.
-/
import Derived.Test.YtpgljahomeebhaaDoorMpRow
namespace Go.Proofs.YtpgljahomeebhaaDoor.Md
open Go Go.RowKit Go.Lib

/-- The operation 'clear(s)' for the walk, where its run is known. -/
theorem wpList_clear_run {P : Program} (w : World) {ops : Array Oper} {rest : List Oper} {o : Oper} {a : Act} {Q : Exit → Act → World → Prop} (hgd : o.guard = none) (s : Operand) (t : TypeId)
    (ho : o.op = .call { callee := .builtin .clear, args := #[s], argTypes := #[t] }) (v : Value) (hs : a.eval s = v) {v' : Value} {w' : World}
    (hr : (Builtin.clear_ #[t] o.type #[v]).run P w = .ok v' w') (h : wpList P ops Q rest (a.put o.dst v') w') : wpList P ops Q (o :: rest) a w :=
  wpList_plain hgd fun _ hK => by
    unfold Oper.wp execOp
    simp only [ho, resolve, invoke, builtin, Sem.run_bind, Sem.run_pure, Result.andThen_ok, List.map_toArray, List.map_cons, List.map_nil, hs, hr]
    exact hK _ _ h
def zIt : List Value := [.string emp, .int .u32 0, .string emp, .int .i64 0, .int .u64 0, .int .i64 0, .bool false, .bool false]
theorem zero_cells (n : Nat) : (Builtin.zeroCells zIt.toArray n).toList = ics (List.replicate n noIt) := by
  apply List.ext_getElem
  · simp [Builtin.zeroCells, ics_len, zIt]
  · intro i h1 h2
    have h1' : i < n * 8 := by simpa [Builtin.zeroCells, zIt] using h1
    have h3 : (List.replicate n noIt)[i / 8]? = some noIt := by rw [List.getElem?_replicate, if_pos (by omega)]
    have hj : (i % 8) < noIt.cells.length := by rw [cells_len]; omega
    have h4 := ics_at h3 (List.getElem?_eq_getElem hj)
    rw [show i / 8 * 8 + i % 8 = i by omega, List.getElem?_eq_getElem h2] at h4
    injection h4 with h4
    rw [h4]
    simp only [Builtin.zeroCells, Array.getElem_toList, Array.getElem_map, Array.getElem_range]
    have h5 : zIt.toArray.size = 8 := rfl
    rw [getElem!_pos zIt.toArray _ (by rw [h5]; omega)]
    rw [List.getElem_toArray]
    rfl
theorem run_clear_its {P : Program} (w : World) (t e ty : TypeId) (ht : P.underlying t = some (.slice e)) (hv : ∀ w, (zeroValue e).run P w = .ok (.agg zIt.toArray) w) (b o n c : Nat)
    (hc : ∀ j, j < n * 8 → (w.cell? ⟨b, o + j, none⟩).isSome = true) (hf : ∀ j, w.frozen? ⟨b, o + j, none⟩ = false) :
    (Builtin.clear_ #[t] ty #[.slice (some ⟨b, o, none⟩) n c]).run P w = .ok (.tuple #[]) (w.setCells b o (ics (List.replicate n noIt))) := by
  have hst := run_storeCells_cells (P := P) b o (ics (List.replicate n noIt)) 0 w (by intro j hj; rw [ics_len, List.length_replicate] at hj; exact hc j hj) (by intro j _; exact hf j) (ics_ok _)
  simp only [Nat.add_zero] at hst
  cases n with
  | zero => simp [Builtin.clear_, run_underlying ht, World.setCells, ics]
  | succ m =>
    have hz := zero_cells (m + 1)
    have hcs : (Value.agg zIt.toArray).cells = zIt.toArray := rfl
    simp [Builtin.clear_, run_underlying ht, hv, hcs, hz, hst]
section
variable {G D : Nat → Prop} {g c : Nat} {w w' : World} {l : List It}
/-- What lies behind the items may turn. -/
theorem Pl.junk (h : Pl g c w l) (vs : List Value) (o : Nat) (h1 : l.length * 8 ≤ o) (h2 : o + vs.length ≤ c * 8) : Pl g c (w.setCells g o vs) l := by
  obtain ⟨cur, hb, h3, h4⟩ := h.blk
  refine ⟨⟨_, blk_setCells vs o w cur hb (by omega), by rw [splice_len (by omega)]; exact h3, ?_⟩, h.le, h.top⟩
  rw [← h4]
  apply List.ext_getElem?
  intro j
  rw [List.getElem?_take, List.getElem?_take]
  by_cases hj : j < l.length * 8
  · rw [if_pos hj, if_pos hj, splice_at (by omega), if_pos (by omega)]
  · rw [if_neg hj, if_neg hj]
theorem only_mono1 (h : Only (fun b => b = g) w w') (hg : G g) : Only G w w' := h.mono (fun b hb => by rw [hb]; exact hg)
theorem set_lay (i : Nat) (x : It) : w.setCells g (i * 8) (ics [x]) = (((((((w.setCell ⟨g, i * 8, none⟩ (.string x.key)).setCell ⟨g, i * 8 + 1, none⟩ (.int .u32 x.flags)).setCell ⟨g, i * 8 + 2, none⟩ (.string x.val)).setCell ⟨g, i * 8 + 3, none⟩ (.int .i64 x.exp)).setCell ⟨g, i * 8 + 4, none⟩ (.int .u64 x.cas)).setCell ⟨g, i * 8 + 5, none⟩ (.int .i64 x.last)).setCell ⟨g, i * 8 + 6, none⟩ (.bool x.stale)).setCell ⟨g, i * 8 + 7, none⟩ (.bool x.won) := rfl
end
theorem filter_no {p : It → Bool} {l : List It} (h : ∀ (j : Nat) (y : It), l[j]? = some y → p y = false) : l.filter (fun x => !p x) = l :=
  List.filter_eq_self.2 (fun x hx => by obtain ⟨j, hj, rfl⟩ := List.mem_iff_getElem.1 hx; rw [h j l[j] (List.getElem?_eq_getElem hj)]; rfl)
theorem idx_spec (p : It → Bool) (l : List It) : (idx p l = -1 ∧ ∀ (j : Nat) (y : It), l[j]? = some y → p y = false) ∨ ∃ (k : Nat) (x : It), idx p l = (k : Int) ∧ l[k]? = some x ∧ p x = true ∧ ∀ (j : Nat) (y : It), j < k → l[j]? = some y → p y = false := by
  unfold idx
  cases h : l.findIdx? p with
  | none => exact .inl ⟨rfl, fun j y hy => List.findIdx?_eq_none_iff.1 h y (List.mem_of_getElem? hy)⟩
  | some k =>
    obtain ⟨hk, h1, h2⟩ := List.findIdx?_eq_some_iff_getElem.1 h
    refine .inr ⟨k, l[k], rfl, List.getElem?_eq_getElem hk, h1, fun j y hj hy => ?_⟩
    obtain ⟨hl, rfl⟩ := List.getElem?_eq_some_iff.1 hy
    simpa using h2 j hj
/-- DeleteFunc, under way. -/
structure DfW (G : Nat → Prop) (p : It → Bool) (l : List It) (w : World) (g c i j : Nat) (W : World) : Prop where
  row : ∃ m, Pl g c W m ∧ m.length = l.length ∧ m.take i = (l.take j).filter (fun x => !p x) ∧ m.drop j = l.drop j
  lt : i < j
  le : j ≤ l.length
  only : Only G w W
section
variable {G : Nat → Prop} {p : It → Bool} {l : List It} {w W W' : World} {g c i j : Nat}
theorem DfW.step (h : DfW G p l w g c i j W) (hb : Below W.heap.size W W') : DfW G p l w g c i j W' := by
  obtain ⟨m, h1, h2⟩ := h.row
  exact ⟨⟨m, h1.below hb, h2⟩, h.lt, h.le, h.only.trans (E := fun _ => False) (Below.only hb) (fun _ h => h.elim)⟩
theorem DfW.start {x : It} (h : Pl g c w l) (hk : l[i]? = some x) (hp : p x = true) (hn : ∀ (j : Nat) (y : It), j < i → l[j]? = some y → p y = false) (ho : Only G w w) : DfW G p l w g c i (i + 1) w := by
  obtain ⟨hlt, rfl⟩ := List.getElem?_eq_some_iff.1 hk
  refine ⟨⟨l, h, rfl, ?_, rfl⟩, by omega, by omega, ho⟩
  rw [List.take_succ_eq_append_getElem hlt, List.filter_append, List.filter_cons_of_neg (by rw [hp]; decide), List.filter_nil, List.append_nil]
  refine (filter_no (fun k y hy => ?_)).symm
  rw [List.getElem?_take] at hy
  split at hy
  · exact hn k y (by assumption) hy
  · cases hy
theorem DfW.at (h : DfW G p l w g c i j W) {x : It} (hx : l[j]? = some x) : ∀ (k : Nat) u, x.cells[k]? = some u → W.cell? ⟨g, j * 8 + k, none⟩ = some u := by
  obtain ⟨m, h1, h2, h3, h4⟩ := h.row
  have : m[j]? = some x := by
    have e : m[j]? = (m.drop j)[0]? := by rw [List.getElem?_drop]; rfl
    rw [e, h4, List.getElem?_drop]; exact hx
  exact fun k u hk => h1.at this hk
theorem DfW.skip (h : DfW G p l w g c i j W) {x : It} (hx : l[j]? = some x) (hp : p x = true) : DfW G p l w g c i (j + 1) W := by
  obtain ⟨m, h1, h2, h3, h4⟩ := h.row
  obtain ⟨hlt, rfl⟩ := List.getElem?_eq_some_iff.1 hx
  refine ⟨⟨m, h1, h2, ?_, ?_⟩, by have := h.lt; omega, by omega, h.only⟩
  · rw [List.take_succ_eq_append_getElem hlt, List.filter_append, List.filter_cons_of_neg (by rw [hp]; decide), List.filter_nil, List.append_nil, h3]
  · have := congrArg (List.drop 1) h4
    rw [List.drop_drop, List.drop_drop] at this
    exact this
theorem DfW.keep (h : DfW G p l w g c i j W) {x : It} (hx : l[j]? = some x) (hp : p x = false) (hg : G g) : DfW G p l w g c (i + 1) (j + 1) (W.setCells g (i * 8) (ics [x])) := by
  obtain ⟨m, h1, h2, h3, h4⟩ := h.row
  obtain ⟨hlt, rfl⟩ := List.getElem?_eq_some_iff.1 hx
  have hij := h.lt
  have hle := h1.le
  have h5 := h1.lay i [l[j]] (by omega) (by simp; omega)
  have e1 : (m.take i ++ [l[j]]).length = i + 1 := by rw [List.length_append, List.length_take, List.length_singleton]; omega
  refine ⟨⟨_, h5, ?_, ?_, ?_⟩, by omega, by omega, h.only.trans (only_mono1 (only_setCells _ _ _) hg) (fun b hb => .inl hb)⟩
  · rw [List.length_append, e1, List.length_drop, List.length_singleton]; omega
  · rw [List.take_left' e1, h3, List.take_succ_eq_append_getElem hlt, List.filter_append, List.filter_cons_of_pos (by rw [hp]; decide), List.filter_nil]
  · have h6 := congrArg (List.drop 1) h4
    rw [List.drop_drop, List.drop_drop] at h6
    rw [List.drop_append, List.drop_eq_nil_of_le (by rw [e1]; omega), List.nil_append, e1, List.drop_drop, List.length_singleton, show i + 1 + (j + 1 - (i + 1)) = j + 1 by omega]
    exact h6
/-- At the end. -/
theorem DfW.fin (h : DfW G p l w g c i j W) (hj : j = l.length) (hg : G g) : ∃ m, m = l.filter (fun x => !p x) ∧ m.length = i ∧ Rw G W (.slice (some ⟨g, 0, none⟩) i c) m ∧ ∀ n, i + n ≤ c → Rw G (W.setCells g (i * 8) (ics (List.replicate n noIt))) (.slice (some ⟨g, 0, none⟩) i c) m ∧ Only G w (W.setCells g (i * 8) (ics (List.replicate n noIt))) := by
  obtain ⟨m, h1, h2, h3, h4⟩ := h.row
  have hlt := h.lt
  have hle := h.le
  have h5 := h1.cut i
  have e : (m.take i).length = i := by rw [List.length_take]; omega
  refine ⟨m.take i, by rw [h3, hj, List.take_of_length_le (Nat.le_refl _)], e, ?_, fun n hn => ⟨?_, h.only.trans (only_mono1 (only_setCells _ _ _) hg) (fun b hb => .inl hb)⟩⟩
  · have := h5.rw hg
    rwa [e] at this
  · have := (h5.junk (ics (List.replicate n noIt)) (i * 8) (by rw [e]; exact Nat.le_refl _) (by rw [ics_len, List.length_replicate]; omega)).rw hg
    rwa [e] at this
end
theorem zeroItem : ∀ w, (zeroValue 33).run Tryd.prog w = .ok (.agg zIt.toArray) w := fun w => by
  have hz : Tryd.t33.zero = some (.agg zIt.toArray) := by kernel_rfl
  simp [zeroValue, hz]
set_option maxHeartbeats 1000000 in
set_option maxRecDepth 100000 in
theorem delfunc_any (f : Nat) (lb : Value) (p : It → Bool) {G : Nat → Prop} {v : Value} {l : List It} {w : World} (hR : Rw G w v l) (hG : ∀ b, G b → b < w.heap.size) (hlen : l.length ≤ 4194304)
    (hf : ∀ W x, Only G w W → Calls Tryd.prog f #[It.v x, lb] W fun e w' => e = .returned (.bool (p x)) ∧ Below W.heap.size W w') (eg : ∀ args w, (callFunc f args).run Tryd.prog w = .ok (.enter f args) w) :
    Calls Tryd.prog 44 #[v, .func (.func f) #[] #[lb]] w fun e w' => ∃ v', e = .returned v' ∧ Rw G w' v' (l.filter (fun x => !p x)) ∧ Only G w w' := by
  have hix := index_any f lb p hR.its hlen (fun W x hW => hf W x (hW.mono (Nat.le_refl _) |> fun h => Below.only h)) eg
  rcases idx_spec p l with ⟨e0, hno⟩ | ⟨k, x, e0, hk, hp, hno⟩
  · rw [e0] at hix
    have hfl := hid (filter_no hno)
    obtain ⟨a, c, rfl⟩ := hR.form
    have HR := hid hR
    clear hR hf hno hG
    generalize l.length = N at *
    go_enter Tryd.func44, Tryd.ntmps44
    go_wp2_with fail
    refine hix.mono ?_
    rintro e w2 ⟨rfl, hb2⟩
    have X := hid (HR.out.below hb2)
    have Y := hid (Below.only (D := G) hb2)
    clear hb2
    go_wp2_with fail
    go_ret
    refine ⟨_, rfl, ?_, Y.out⟩
    rw [hfl.out]
    exact X.out
  · rw [e0] at hix
    have hne : ((k : Int) == -1) = false := beq_eq_false_iff_ne.2 (by omega)
    rcases hR.pl with ⟨rfl, rfl⟩ | ⟨g, c, rfl, hg, hP⟩
    · simp at hk
    · have hS := hid (DfW.start (p := p) hP hk hp hno (Only.refl G w))
      have hle := hP.le
      have hkl : k < l.length := (List.getElem?_eq_some_iff.1 hk).1
      obtain ⟨N, hN⟩ : ∃ N, N = l.length := ⟨_, rfl⟩
      rw [← hN] at hix hle hlen hkl ⊢
      have HN := hid hN
      have HF := hid hf
      have HG := hid hG
      have Hg := hid hg
      clear hf hG hN hR hP hno hk hp hg
      go_enter Tryd.func44, Tryd.ntmps44
      go_wp2_with fail
      refine hix.mono ?_
      rintro e w2 ⟨rfl, hb2⟩
      have HS := hid (hS.out.step hb2)
      clear hb2 hS
      go_wp2_with fail
      go_loopw [5, 6, 7] (fun s5 s6 _ wr => ∃ i j : Nat, s5 = .int .i64 i ∧ s6 = .int .i64 j ∧ i < j ∧ j ≤ N ∧ Hid (DfW G p l w g c i j wr)) (fun _ s6 _ _ => N - (RowKit.intOf s6).toNat)
      case atStart => exact ⟨k, k + 1, rfl, by go_num, by omega, by omega, HS⟩
      case round =>
        obtain ⟨i, j, rfl, rfl, hij, hjN, HD⟩ := hrel
        clear HS
        by_cases hlt : j < N
        · have hlt1 : (j : Int) < (N : Int) := by omega
          have j0 : (0 : Int) ≤ (j : Int) := by omega
          have i0 : (0 : Int) ≤ (i : Int) := by omega
          have i1 : (i : Int) < (N : Int) := by omega
          obtain ⟨y, hy⟩ : ∃ y, l[j]? = some y := ⟨_, List.getElem?_eq_getElem (by rw [← HN.out]; exact hlt)⟩
          have d := HD.out.at hy
          have d0 := d 0 _ rfl
          have d1 := d 1 _ rfl
          have d2 := d 2 _ rfl
          have d3 := d 3 _ rfl
          have d4 := d 4 _ rfl
          have d5 := d 5 _ rfl
          have d6 := d 6 _ rfl
          have d7 := d 7 _ rfl
          rw [Nat.add_zero] at d0
          clear d
          have hal := abelow wr (.cells #[.string y.key, .int .u32 y.flags, .string y.val, .int .i64 y.exp, .int .u64 y.cas, .int .i64 y.last, .bool y.stale, .bool y.won] 33)
          have HD2 := hid (HD.out.step hal)
          have hcall := HF.out _ y HD2.out.only
          have HY := hid hy
          clear hy hal
          cases hp : p y
          · have HPy := hid hp
            rw [hp] at hcall
            clear hp
            go_wp2_with fail
            refine hcall.mono ?_
            rintro e w3 ⟨rfl, hb3⟩
            have hal := (Blk.new wr #[.string y.key, .int .u32 y.flags, .string y.val, .int .i64 y.exp, .int .u64 y.cas, .int .i64 y.last, .bool y.stale, .bool y.won] 33).below hb3
            have HD3 := hid (HD2.out.step hb3)
            clear hb3 d0 d1 d2 d3 d4 d5 d6 d7
            have a0 := hal.cell (i := 0) rfl
            have a1 := hal.cell (i := 1) rfl
            have a2 := hal.cell (i := 2) rfl
            have a3 := hal.cell (i := 3) rfl
            have a4 := hal.cell (i := 4) rfl
            have a5 := hal.cell (i := 5) rfl
            have a6 := hal.cell (i := 6) rfl
            have a7 := hal.cell (i := 7) rfl
            have HD4 := hid (HD3.out.keep HY.out HPy.out Hg.out)
            obtain ⟨m, hm, hml, _⟩ := HD3.out.row
            have hgt := hm.lt
            have f0 := hm.fro (i * 8)
            have f1 := hm.fro (i * 8 + 1)
            have f2 := hm.fro (i * 8 + 2)
            have f3 := hm.fro (i * 8 + 3)
            have f4 := hm.fro (i * 8 + 4)
            have f5 := hm.fro (i * 8 + 5)
            have f6 := hm.fro (i * 8 + 6)
            have f7 := hm.fro (i * 8 + 7)
            obtain ⟨z, hz⟩ : ∃ z, m[i]? = some z := ⟨_, List.getElem?_eq_getElem (by rw [hml, ← HN.out]; omega)⟩
            have z0 := hm.at hz (j := 0) rfl
            have z1 := hm.at hz (j := 1) rfl
            have z2 := hm.at hz (j := 2) rfl
            have z3 := hm.at hz (j := 3) rfl
            have z4 := hm.at hz (j := 4) rfl
            have z5 := hm.at hz (j := 5) rfl
            have z6 := hm.at hz (j := 6) rfl
            have z7 := hm.at hz (j := 7) rfl
            rw [Nat.add_zero] at z0
            clear hz hm hml hal
            go_wp2_with fail
            go_roundw
            case rel => exact ⟨i + 1, j + 1, by go_num, by go_num, by omega, by omega, HD4⟩
            case measure => simp [RowKit.intOf] <;> omega
          · have HPy := hid hp
            rw [hp] at hcall
            clear hp
            go_wp2_with fail
            refine hcall.mono ?_
            rintro e w3 ⟨rfl, hb3⟩
            have HD3 := hid ((HD2.out.step hb3).skip HY.out HPy.out)
            clear hb3 d0 d1 d2 d3 d4 d5 d6 d7
            go_wp2_with fail
            go_roundw
            case rel => exact ⟨i, j + 1, rfl, by go_num, by omega, by omega, HD3⟩
            case measure => simp [RowKit.intOf] <;> omega
        · have hlt1 : ¬ (j : Int) < (N : Int) := by omega
          obtain rfl : j = N := by omega
          obtain ⟨m, hm, hml, hm1, hm2⟩ := HD.out.fin HN.out Hg.out
          have hM := hm2 (j - i) (by omega)
          obtain ⟨m0, hp0, -, -⟩ := HD.out.row
          have hcl := run_clear_its (P := Tryd.prog) wr 22 33 0 Tryd.underlying22 zeroItem g (i * 8) (j - i) (c - i) (fun k hk => hp0.isS (by omega)) (fun k => hp0.fro _)
          have HM := hid hM
          have Hm := hid hm
          have Hl := hid hml
          have i0 : (0 : Int) ≤ (i : Int) := by omega
          have i1 : (i : Int) ≤ (j : Int) := by omega
          have i2 : ¬ c = i := by omega
          have i3 : (i : Int) ≤ (c : Int) := by omega
          clear hM hm hml hm1 hm2 hp0 HD
          go_wp2_with fail
          go_ret
          refine ⟨_, rfl, ?_, HM.out.2⟩
          rw [<- Hm.out]
          exact HM.out.1
/-- An append whose run is known, as one step of a region that draws. -/
theorem step_append_runI {P : Program} {ops : Array Oper} {o : Oper} {a : Act} {w : World} {K : Act → World → Prop} {Q : Exit → Act → World → Prop} {E : Prop}
    (hg : o.guard = none) (d x : Operand) (dT sT : TypeId) (hop : o.op = Op.call { callee := Callee.builtin Builtin.append, args := #[d, x], argTypes := #[dT, sT] })
    (v u : Value) (hd : a.eval d = v) (hx : a.eval x = u) {v' : Value} {w' : World} (hr : (Builtin.append_ #[dT, sT] o.type #[v, u]).run P w = .ok v' w') (hK : K (a.put o.dst v') w') :
    if Region.wanted o (yielded ops a.tmps) = true then Oper.wp P o a w K Q else E := by
  have hw : Region.wanted o (yielded ops a.tmps) = true := by simp [Region.wanted, hg]
  rw [if_pos hw]
  unfold Oper.wp
  simp [execOp, hop, resolve, invoke, builtin, hd, hx, hr, Result.andThen]
  exact hK
theorem Pl.own {g c : Nat} {w : World} {l : List It} (h : Pl g c w l) : w.ownsRow 0 33 8 (.slice (some ⟨g, 0, none⟩) l.length c) l.length (ics l) := (h.rw (G := fun _ => True) trivial).1
theorem own_pl {g c n : Nat} {w : World} {l : List It} (h : w.ownsRow 0 33 8 (.slice (some ⟨g, 0, none⟩) n c) n (ics l)) (hn : n = l.length) : Pl g c w l := by
  subst hn
  rcases h.2 with ⟨e, _⟩ | ⟨g', cap, cur, e, _, hg, hle, hm, hs, ht⟩
  · cases e
  · injection e with e1 e2 e3
    injection e1 with e1
    injection e1 with e1
    subst e1; subst e3
    exact ⟨⟨cur.toList, hg, by simpa using hs, ht⟩, hle, hm⟩
theorem only_grown {g : Nat} {w w' : World} (h : w.grownBy w' (some g)) : Only (fun b => b = g) w w' := ⟨h.os, h.tape, h.output, h.size, fun k hk hd => h.block k hk (fun e => hd (by injection e))⟩
theorem erase_parts (l : List It) (i : Nat) : l.eraseIdx i = l.take i ++ l.drop (i + 1) := List.eraseIdx_eq_take_drop_succ l i
set_option maxHeartbeats 1000000 in
set_option maxRecDepth 100000 in
theorem delete_any {G : Nat → Prop} {v : Value} {l : List It} {w : World} (hR : Rw G w v l) (hlen : l.length ≤ 4194304) (i : Nat) (hi : i < l.length) :
    Calls Tryd.prog 69 #[v, .int .i64 i, .int .i64 ((i : Int) + 1)] w fun e w' => ∃ v', e = .returned v' ∧ Rw G w' v' (l.eraseIdx i) ∧ Only G w w' := by
  rcases hR.pl with ⟨rfl, rfl⟩ | ⟨g, c, rfl, hg, hP⟩
  · simp at hi
  · obtain ⟨i0, hi0, hz0, hz1, hz2⟩ := info_parts infoItem
    have hle := hP.le
    have hPd : Pl g c w.drew l := hP.only (D := fun _ => False) ((Only.refl _ _).drew) (fun h => h)
    have hO := (hPd.cut i).own
    rw [show (l.take i).length = i by rw [List.length_take]; omega] at hO
    have hS := hPd.rw (G := G) hg
    obtain ⟨ad, had⟩ : ∃ ad, fromA (some ⟨g, 0, none⟩) c (i + 1) = some ad := by
      unfold fromA
      by_cases e : c = i + 1
      · exact ⟨_, if_pos e⟩
      · exact ⟨_, if_neg e⟩
    have hsrc := hS.its.srcs (i + 1) (l.length - (i + 1)) (by omega)
    rw [had, List.take_of_length_le (by rw [List.length_drop]; exact Nat.le_refl _)] at hsrc
    have hcells : ∀ j u, (ics (l.drop (i + 1)))[j]? = some u → w.drew.cell? (ad.add j) = some u := by
      rcases hsrc with ⟨ad', c', e, h1, h2⟩ | ⟨e, _⟩
      · injection e with e1
        injection e1 with e1
        rw [e1]; exact h2
      · cases e
    obtain ⟨M, hM⟩ : ∃ M, M = l.length - (i + 1) := ⟨_, rfl⟩
    obtain ⟨w1, hrun, hown, hgrow⟩ := run_append_fits (P := Tryd.prog) w.drew 0 22 22 33 i0 8 Tryd.underlying22 hi0 hz1 g i c _ hO ad M (c - (i + 1)) (ics (l.drop (i + 1))) (by rw [ics_len, List.length_drop, hM]) hcells (ics_ok _) (by omega)
    rw [← ics_app, ← erase_parts] at hown
    have hel : (l.eraseIdx i).length = i + M := by rw [List.length_eraseIdx, if_pos hi]; omega
    have hP1 := own_pl hown hel.symm
    have hO1 : Only G w w1 := ((Only.refl G w).drew).trans (only_mono1 (only_grown hgrow) hg) (fun b hb => .inl hb)
    have hcl := run_clear_its (P := Tryd.prog) w1 22 33 0 Tryd.underlying22 zeroItem g ((i + M) * 8) 1 (c - (i + M)) (fun k hk => hP1.isS (by omega)) (fun k => hP1.fro _)
    have hfin := (hP1.junk (ics (List.replicate 1 noIt)) ((i + M) * 8) (by rw [hel]; exact Nat.le_refl _) (by rw [ics_len, List.length_replicate]; omega)).rw hg
    have hO2 := hO1.trans (only_mono1 (only_setCells (b := g) (ics (List.replicate 1 noIt)) ((i + M) * 8) w1) hg) (fun b hb => .inl hb)
    rw [hel] at hfin
    have HF := hid hfin
    have HO2 := hid hO2
    have HA := hid had
    have HN : Hid (l.length = i + M + 1) := hid (by omega)
    clear hfin hO2 hO1 hP1 hel hown hgrow hcells hsrc hS hO hPd hP hR hM hg
    obtain ⟨K, hK⟩ : ∃ K, K = i + M := ⟨_, rfl⟩
    obtain ⟨N, hN⟩ : ∃ N, N = l.length := ⟨_, rfl⟩
    rw [← hK] at hcl HF HO2 hrun
    rw [← hN] at hi hlen hle ⊢
    have q1 : N - (i + 1) = M := by have := HN.out; omega
    have q2 : N - K = 1 := by have := HN.out; omega
    have q3 : (0 : Int) ≤ (i : Int) := by omega
    have q4 : (i : Int) + 1 ≤ (N : Int) := by omega
    have q5 : (i : Int) ≤ (N : Int) := by omega
    have q6 : (N : Int) ≤ (c : Int) := by omega
    have q7 : (i : Int) ≤ (c : Int) := by omega
    have q8 : ((i : Int) + 1).toNat = i + 1 := by omega
    have q9 : (0 : Int) ≤ (i : Int) + 1 := by omega
    have q10 : ((i : Int) == (i : Int) + 1) = false := beq_eq_false_iff_ne.2 (by omega)
    have q11 : (K : Int) ≤ (N : Int) := by have := HN.out; omega
    have q12 : ¬ c = K := by have := HN.out; omega
    have q13 : (i : Int) ≤ (i : Int) + 1 := by omega
    have q14 : (if c = i + 1 then (some ⟨g, 0, none⟩ : Option Addr) else some ⟨g, (i + 1) * 8, none⟩) = some ad := by
      have := HA.out
      unfold fromA at this
      rw [← this]
      split
      · rfl
      · rw [Option.map_some, addr_plain, Nat.zero_add]
    have q15 : (K : Int) ≤ (c : Int) := by omega
    clear HN hN hK had
    go_enter Tryd.func69, Tryd.ntmps69
    go_wp2_with fail
    go_region_law (refine step_append_runI rfl _ _ 22 22 rfl _ _ (by simp [Act.eval, Act.put]) (by simp [Act.eval, Act.put]) hrun ?_)
    go_wp2_with fail
    go_ret
    exact ⟨_, rfl, HF.out, HO2.out⟩
end Go.Proofs.YtpgljahomeebhaaDoor.Md
