/-
  The contract of slices.Insert of one item into a row of the call's own. Conditions: the row is not over long; the item's cells lie in another block.
-/
import Derived.Test.YtpgljahomeebhaaDoorMpDel
import Derived.Lib.Overlaps
import Derived.Lib.AppendZeros
import Derived.Maps.AppendAt
namespace Go.Proofs.YtpgljahomeebhaaDoor.Md
open Go Go.RowKit Go.Lib

theorem wpList_copy_runI {P : Program} (w : World) {ops : Array Oper} {rest : List Oper} {o : Oper} {a : Act} {Q : Exit → Act → World → Prop} (hgd : o.guard = none) (d s : Operand) (t t' : TypeId)
    (ho : o.op = .call { callee := .builtin .copy, args := #[d, s], argTypes := #[t, t'] }) (v u : Value) (hd : a.eval d = v) (hs : a.eval s = u) {v' : Value} {w' : World}
    (hr : (Builtin.copy_ #[t, t'] o.type #[v, u]).run P w = .ok v' w') (h : wpList P ops Q rest (a.put o.dst v') w') : wpList P ops Q (o :: rest) a w :=
  wpList_plain hgd fun _ hK => by
    unfold Oper.wp execOp
    simp only [ho, resolve, invoke, builtin, Sem.run_bind, Sem.run_pure, Result.andThen_ok, List.map_toArray, List.map_cons, List.map_nil, hd, hs, hr]
    exact hK _ _ h
theorem step_copy_runI {P : Program} {ops : Array Oper} {o : Oper} {a : Act} {w : World} {K : Act → World → Prop} {Q : Exit → Act → World → Prop} {E : Prop}
    (hg : o.guard = none) (d x : Operand) (dT sT : TypeId) (hop : o.op = Op.call { callee := Callee.builtin Builtin.copy, args := #[d, x], argTypes := #[dT, sT] })
    (v u : Value) (hd : a.eval d = v) (hx : a.eval x = u) {v' : Value} {w' : World} (hr : (Builtin.copy_ #[dT, sT] o.type #[v, u]).run P w = .ok v' w') (hK : K (a.put o.dst v') w') :
    if Region.wanted o (yielded ops a.tmps) = true then Oper.wp P o a w K Q else E := by
  have hw : Region.wanted o (yielded ops a.tmps) = true := by simp [Region.wanted, hg]
  rw [if_pos hw]
  unfold Oper.wp
  simp [execOp, hop, resolve, invoke, builtin, hd, hx, hr, Result.andThen]
  exact hK
theorem run_copy_its {P : Program} (w : World) (dT sT ty elem : TypeId) (i : TypeInfo) (b o dLen dCap : Nat) (a : Addr) (sLen sCap : Nat) (m : List It)
    (hu : P.underlying dT = some (.slice elem)) (hq : P.info? elem = some i) (hi : i.size = 8) (hn : m.length = Nat.min sLen dLen)
    (hsrc : ∀ j v, (ics m)[j]? = some v → w.cell? (a.add j) = some v) (hc : ∀ j, j < m.length * 8 → (w.cell? ⟨b, o + j, none⟩).isSome = true) (hf : ∀ j, w.frozen? ⟨b, o + j, none⟩ = false) :
    (Builtin.copy_ #[dT, sT] ty #[.slice (some ⟨b, o, none⟩) dLen dCap, .slice (some a) sLen sCap]).run P w = .ok (goInt m.length) (w.setCells b o (ics m)) := by
  have hl := run_loadCells_list (P := P) w a (ics m) hsrc
  rw [ics_len] at hl
  have hst := run_storeCells_cells (P := P) b o (ics m) 0 w (by rw [ics_len]; simpa using hc) (by intro j _; simpa using hf j) (ics_ok m)
  simp only [Nat.add_zero] at hst
  simp [Builtin.copy_, run_underlying hu, Builtin.lenOf, Builtin.firstCells, sizeOf, typeInfo, hq, hi, ← hn, hl, hst]
theorem run_append_zeros {P : Program} (w : World) (t tn ty e : TypeId) (i : TypeInfo) (z : Value) (k kn : IntKind) (ht : P.underlying t = some (.slice e)) (htn : P.underlying tn = some (.int kn)) (hi : P.info? e = some i) (hz : i.zero = some z)
    (b : Addr) (sLen sCap : Nat) (olds : List Value) (hlo : olds.length = sLen * i.size) (holds : ∀ j v, olds[j]? = some v → w.cell? (b.add j) = some v)
    (n : Nat) (h0 : 0 < n) (hs : 0 < i.size) (hg : sCap < sLen + n) (h63 : ((sLen + n : Nat) : Int) ≤ 9223372036854775807) (hb48 : n * i.bytes ≤ 281474976710656) (hfit : Builtin.nextslicecap (sLen + n) sCap * i.bytes ≤ 281474976710656) :
    (Builtin.append_ #[t, tn] ty #[.slice (some b) sLen sCap, .int k n]).run P w =
      .ok (.slice (some ⟨w.heap.size, 0, none⟩) (sLen + n) (grownCap w (sLen + n) sCap e))
        (w.drew.alloc (.cells (olds.toArray ++ Builtin.zeroCells z.cells n ++ Builtin.zeroCells z.cells (grownCap w (sLen + n) sCap e - (sLen + n))) e)) := by
  have hn : ¬ (sLen + n ≤ sCap) := by omega
  have hw : IntKind.i64.wrap (n : Int) = n := by rw [IntKind.wrap_i64]; omega
  have h63' : ¬ (9223372036854775807 < ((sLen : Int) + (n : Int))) := by omega
  have h48' : ¬ (281474976710656 < Builtin.nextslicecap (sLen + n) sCap * i.bytes) := by omega
  have h48i : ¬ (281474976710656 < (n : Int) * (i.bytes : Int)) := by
    rw [← Int.natCast_mul]
    omega
  have hneg : ¬ ((n : Int) < 0) := by omega
  have hns : ¬ (n * i.size = 0) := Nat.mul_ne_zero (by omega) (by omega)
  have hfo := run_firstCells_some (P := P) w.drew i.size sLen b sLen sCap olds hlo (by simpa using holds)
  simp [Builtin.append_, run_underlying ht, run_underlying htn, sizeOf, typeInfo, zeroValue, hi, hz, asInt, asIntOf, hw, hn, hneg, hns, h63', h48', h48i, Question.forced, hfo, newRow, grownCap]
  try congr 2
theorem size_zero8 (n : Nat) : (Builtin.zeroCells zIt.toArray n).size = n * 8 := by simp [Builtin.zeroCells, zIt]
/-- What a grown row is: the items, and zeros behind them. -/
theorem grown_pl (w : World) (l : List It) (n need cap : Nat) (hn : l.length + n = need) (hc : need ≤ cap) (hm : cap ≤ maxLen) :
    Pl w.heap.size cap (w.alloc (.cells ((ics l).toArray ++ Builtin.zeroCells zIt.toArray n ++ Builtin.zeroCells zIt.toArray (cap - need)) 33)) (l ++ List.replicate n noIt) := by
  refine ⟨⟨_, Blk.new w _ _, ?_, ?_⟩, by rw [List.length_append, List.length_replicate]; omega, hm⟩
  · simp only [Array.length_toList, Array.size_append, List.size_toArray, size_zero8, ics_len]
    omega
  · simp only [Array.toList_append, zero_cells]
    rw [← ics_app, ← ics_app, List.length_append, List.length_replicate, ics_app (l ++ List.replicate n noIt), List.take_left' (by rw [ics_len, List.length_append, List.length_replicate])]
theorem put_end_its (l : List It) (x : It) (i : Nat) : l.take i ++ [x] ++ l.drop i = l.take i ++ x :: l.drop i := by rw [List.append_assoc]; rfl
theorem Blk.shape {w : World} {b : Nat} {t : TypeId} {cs : List Value} (h : Blk w b t cs) : w.shape? b = some (t, cs.length) := by
  have h' : w.heap[b]? = some (.cells cs.toArray t (0, 0)) := h
  simp [World.shape?, h']
/-- Its new place. -/
def Gn (G : Nat → Prop) (w w' : World) (b : Nat) : Prop := G b ∨ (w.heap.size ≤ b ∧ b < w'.heap.size)
section
variable {G : Nat → Prop} {v : Value} {l : List It} {w : World}
set_option maxHeartbeats 1000000 in
set_option maxRecDepth 100000 in
theorem insert_end (hR : Rw G w v l) (hlen : l.length ≤ 4194304) (x : It) (vb : Nat) (hv : ∀ (j : Nat) u, x.cells[j]? = some u → w.cell? ⟨vb, j, none⟩ = some u) :
    Calls Tryd.prog 78 #[v, .int .i64 l.length, .slice (some ⟨vb, 0, none⟩) 1 1] w fun e w' => ∃ v', e = .returned v' ∧ Rw (Gn G w w') w' v' (l ++ [x]) ∧ Only G w w' := by
  obtain ⟨i0, hi0, hz0, hz1, hz2⟩ := info_parts infoItem
  obtain ⟨a, c, rfl⟩ := hR.form
  have hcn : l.length ≤ c := by
    obtain ⟨a', c', e, h1, _⟩ := hR.its
    injection e with e1 e2 e3
    omega
  obtain ⟨N, hN⟩ : ∃ N, N = l.length := ⟨_, rfl⟩
  have HS := hid (show ∀ j u, x.cells[j]? = some u → w.cell? ((⟨vb, 0, none⟩ : Addr).add j) = some u from fun j u hj => by rw [addr_plain, Nat.zero_add]; exact hv j u hj)
  have hfin : Hid (∀ v' w1, w1.ownsRow 0 33 8 v' (N + 1) (ics l ++ x.cells) → w.grownBy w1 (Value.slice a l.length c).ownBlock → (v'.ownBlock = (Value.slice a l.length c).ownBlock ∨ v'.ownBlock = some w.heap.size) → Rw (Gn G w w1) w1 v' (l ++ [x]) ∧ Only G w w1) := hid (fun v' w1 ho hg hl => by
    refine ⟨⟨?_, fun b hb => ?_⟩, ⟨hg.os, hg.tape, hg.output, hg.size, fun k hk hd => hg.block k hk (fun e => hd (hR.2 k e.symm))⟩⟩
    · rw [ics_app, List.length_append, ← hN]; exact ho
    · rcases hl with e | e
      · exact .inl (hR.2 b (by rw [← e]; exact hb))
      · rw [hb] at e; injection e with e; subst e; exact .inr ⟨Nat.le_refl _, (own_lt ho hb).2⟩)
  have HO := hid hR.1
  have hok := cells_ok x
  rw [← hN] at HO hfin hcn hlen ⊢
  have HL : Hid (True ∧ N ≤ 4194304) := hid ⟨trivial, hlen⟩
  have q1 : (N : Int) ≤ (c : Int) := by omega
  have q2 : (0 : Int) ≤ (N : Int) := by omega
  clear hR hv hN
  go_enter Tryd.func78, Tryd.ntmps78
  go_wp2_with (at_builtin; refine wpList_append_own_at _ rfl _ _ 22 rfl 0 33 i0 _ 8 72 Tryd.underlying22 hi0 hz0 hz1 hz2 rfl (by decide) (.slice a N c) N (ics l) rfl HO.out ⟨vb, 0, none⟩ 1 1 x.cells rfl rfl HS.out hok (by unfold maxLen; omega) (by omega) (Nat.zero_le _) ?_; intro v' w1 hown hgrow _ hloc; obtain ⟨X1, X2⟩ := hfin.out v' w1 hown hgrow hloc; obtain ⟨a', c', rfl⟩ := row_form hown)
  all_goals
    go_ret
    exact ⟨_, rfl, X1, X2⟩
set_option maxHeartbeats 1000000 in
set_option maxRecDepth 100000 in
theorem insert_shift (g c : Nat) (hP : Pl g c w l) (hg : G g) (hlen : l.length ≤ 4194304) (hroom : l.length + 1 ≤ c) (i : Nat) (hi : i < l.length) (x : It) (vb : Nat) (hv : Blk w vb 33 x.cells) (hne : vb ≠ g) :
    Calls Tryd.prog 78 #[.slice (some ⟨g, 0, none⟩) l.length c, .int .i64 i, .slice (some ⟨vb, 0, none⟩) 1 1] w fun e w' => ∃ v', e = .returned v' ∧ Rw G w' v' (l.take i ++ x :: l.drop i) ∧ Only G w w' := by
  obtain ⟨i0, hi0, hz0, hz1, hz2⟩ := info_parts infoItem
  have hPd : Pl g c w.drew l := hP.only (D := fun _ => False) ((Only.refl _ _).drew) (fun h => h)
  have hdl : (l.drop i).length = l.length - i := List.length_drop
  -- what is shifted
  have hcp1 := fun ty dc sc => run_copy_its (P := Tryd.prog) w.drew 22 22 ty 33 i0 g ((i + 1) * 8) (l.length + 1 - (i + 1)) dc ⟨g, i * 8, none⟩ (l.length + 1 - i) sc (l.drop i) Tryd.underlying22 hi0 hz1
    (by rw [hdl]; simp only [Nat.min_def]; split <;> omega)
    (fun j u hj => by
      rw [addr_plain]
      have hj8 : j / 8 < (l.drop i).length := by have := (List.getElem?_eq_some_iff.1 hj).1; rw [ics_len] at this; omega
      obtain ⟨y, hy⟩ : ∃ y, (l.drop i)[j / 8]? = some y := ⟨_, List.getElem?_eq_getElem hj8⟩
      have hm8 : j % 8 < y.cells.length := by rw [cells_len]; omega
      have h1 := ics_at hy (List.getElem?_eq_getElem hm8)
      rw [show j / 8 * 8 + j % 8 = j by omega, hj] at h1
      rw [List.getElem?_drop] at hy
      have := hPd.at hy (j := j % 8) (u := u) (by rw [h1]; exact List.getElem?_eq_getElem hm8)
      rw [show i * 8 + j = (i + j / 8) * 8 + j % 8 by omega]; exact this)
    (fun j hj => hPd.isS (by rw [hdl] at hj; omega)) (fun j => hPd.fro _)
  have hP1 := hPd.lay (i + 1) (l.drop i) (by omega) (by rw [hdl]; omega)
  rw [show i + 1 + (l.drop i).length = l.length + 1 by omega, List.drop_eq_nil_of_le (Nat.le_succ _), List.append_nil] at hP1
  obtain ⟨W1, hW1⟩ : ∃ W1, W1 = w.drew.setCells g ((i + 1) * 8) (ics (l.drop i)) := ⟨_, rfl⟩
  have hO1 : Only G w W1 := by rw [hW1]; exact ((Only.refl G w).drew).trans (only_mono1 (only_setCells _ _ _) hg) (fun b hb => .inl hb)
  have hvb : Blk W1 vb 33 x.cells := by rw [hW1]; exact hv.only (D := fun b => b = g) (((Only.refl _ w).drew).trans (only_setCells _ _ _) (fun b hb => .inl hb)) hne
  rw [← hW1] at hP1 hcp1
  have e1 : (l.take (i + 1) ++ l.drop i).length = l.length + 1 := by rw [List.length_append, List.length_take, hdl]; omega
  have hcp2 := fun ty dc => run_copy_its (P := Tryd.prog) W1 22 22 ty 33 i0 g (i * 8) (l.length + 1 - i) dc ⟨vb, 0, none⟩ 1 1 [x] Tryd.underlying22 hi0 hz1
    (by simp only [List.length_singleton, Nat.min_def]; split <;> omega)
    (fun j u hj => by rw [addr_plain, Nat.zero_add]; exact hvb.cell (by simpa [ics] using hj))
    (fun j hj => hP1.isS (by rw [List.length_singleton] at hj; omega)) (fun j => hP1.fro _)
  have hP2 := hP1.lay i [x] (by omega) (by rw [List.length_singleton]; omega)
  have e2 : (l.take (i + 1) ++ l.drop i).take i ++ [x] ++ (l.take (i + 1) ++ l.drop i).drop (i + [x].length) = l.take i ++ x :: l.drop i := by
    rw [List.length_singleton, List.take_append_of_le_length (by rw [List.length_take]; omega), List.take_take, Nat.min_eq_left (by omega), List.drop_left' (by rw [List.length_take]; omega), put_end_its]
  rw [e2] at hP2
  have hlf : (l.take i ++ x :: l.drop i).length = l.length + 1 := by rw [List.length_append, List.length_cons, List.length_take, hdl]; omega
  have hRf := hP2.rw hg
  rw [hlf] at hRf
  have hOf := hO1.trans (only_mono1 (only_setCells (b := g) (ics [x]) (i * 8) W1) hg) (fun b hb => .inl hb)
  have HRf := hid hRf
  have HOf := hid hOf
  have hsz : ∀ W, (Go.sizeOf 33).run Tryd.prog W = .ok 8 W := fun W => by
    simp [Go.sizeOf, typeInfo, hi0, hz1]
  obtain ⟨cur, hcur, hcl, _⟩ := hP.blk
  have hov : ∀ lb cb, (callFunc 86 #[.slice (some ⟨vb, 0, none⟩) 1 1, .slice (some ⟨g, (i + 1) * 8, none⟩) lb cb]).run Tryd.prog w = .ok (.value (.bool false)) w := fun lb cb => by
    rw [run_callFunc_extern Tryd.func86 (by kernel_rfl) (by kernel_rfl) (by kernel_rfl) (e := Extern.SlicesOverlaps.overlaps #[22, 22] #[4]) (by kernel_rfl),
      Lib.run_overlaps_apart w 22 4 33 Tryd.underlying22 8 hsz ⟨vb, 0, none⟩ ⟨g, (i + 1) * 8, none⟩ 1 1 lb cb hne 33 33 8 (c * 8) (Blk.shape hv) (by rw [Blk.shape hcur, hcl]) (by omega) (hv.frozen 0) (hv.frozen 8)]
    rfl
  obtain ⟨N, hN⟩ : ∃ N, N = l.length := ⟨_, rfl⟩
  rw [← hN] at hcp1 hcp2 HRf hlen hroom hi ⊢
  rw [show N + 1 - (i + 1) = N - i by omega] at hcp1
  have q1 : ¬ ((i : Int) = (N : Int)) := by omega
  have q1' : ((i : Int) == (N : Int)) = false := beq_eq_false_iff_ne.2 q1
  have q2 : IntKind.i64.wrap ((i : Int) + 1) = (i : Int) + 1 := by rw [IntKind.wrap_i64]; omega
  have q3 : (0 : Int) ≤ (i : Int) + 1 := by omega
  have q4 : ((i : Int) + 1).toNat = i + 1 := by omega
  have q5 : ¬ (c = i + 1) := by omega
  have q6 : (i : Int) ≤ (N : Int) + 1 := by omega
  have q7 : ¬ (c = i) := by omega
  have q8 : (0 : Int) ≤ (i : Int) := by omega
  have q9 : (i : Int) ≤ (N : Int) := by omega
  have q10 : (N : Int) + 1 ≤ (c : Int) := by omega
  have q11 : IntKind.i64.wrap ((N : Int) + 1) = (N : Int) + 1 := by rw [IntKind.wrap_i64]; omega
  have q12 : (0 : Int) ≤ (N : Int) + 1 := by omega
  have q13 : ((N : Int) + 1).toNat = N + 1 := by omega
  have q14 : (i : Int) + 1 ≤ (N : Int) + 1 := by omega
  have q15 : ¬ ((c : Int) < (N : Int) + 1) := by omega
  have q16 : (N : Int) ≤ (c : Int) := by omega
  clear hP1 hW1 hO1 hvb e1 hP2 e2 hlf hRf hOf hcur hcl hN hdl hPd hP
  go_enter Tryd.func78, Tryd.ntmps78
  go_wp2_with (simp only [hov])
  go_region_law (refine step_copy_runI rfl _ _ 22 22 rfl _ _ (by simp [Act.eval, Act.put]) (by simp [Act.eval, Act.put]) (hcp1 _ _ _) ?_)
  go_wp2_with (at_builtin; refine wpList_copy_runI _ rfl _ _ 22 22 rfl _ _ rfl rfl (hcp2 _ _) ?_)
  go_ret
  exact ⟨_, rfl, HRf.out, HOf.out⟩
set_option maxHeartbeats 1000000 in
set_option maxRecDepth 100000 in
theorem insert_grow (g c : Nat) (hP : Pl g c w l) (hlen : l.length ≤ 4194304) (hroom : c < l.length + 1) (i : Nat) (hi : i < l.length) (x : It) (vb : Nat) (hv : Blk w vb 33 x.cells) :
    Calls Tryd.prog 78 #[.slice (some ⟨g, 0, none⟩) l.length c, .int .i64 i, .slice (some ⟨vb, 0, none⟩) 1 1] w fun e w' => ∃ v', e = .returned v' ∧ Rw (Gn G w w') w' v' (l.take i ++ x :: l.drop i) ∧ Only G w w' := by
  obtain ⟨i0, hi0, hz0, hz1, hz2⟩ := info_parts infoItem
  have hle := hP.le
  have hdl : (l.drop i).length = l.length - i := List.length_drop
  obtain ⟨Z, hZ⟩ : ∃ Z, Z = l.length + 1 - i := ⟨_, rfl⟩
  have htl : (l.take i).length = i := by rw [List.length_take]; omega
  have hsrc0 : ∀ j v, (ics (l.take i))[j]? = some v → w.cell? ((⟨g, 0, none⟩ : Addr).add j) = some v := by
    have h1 := ((hP.cut i).rw (G := fun _ => True) trivial).its
    exact its_cells h1
  have happ := fun ty => run_append_zeros (P := Tryd.prog) w 22 3 ty 33 i0 (.agg zIt.toArray) .i64 .i64 Tryd.underlying22 Tryd.underlying3 hi0 hz0 ⟨g, 0, none⟩ i c (ics (l.take i)) (by rw [ics_len, htl, hz1]) hsrc0 Z (by omega) (by omega) (by omega) (by omega) (by rw [hz2]; omega) (by rw [hz2]; exact growslice_fits (by omega) (by omega))
  rw [show i + Z = l.length + 1 by omega] at happ
  obtain ⟨C, hC⟩ : ∃ C, C = grownCap w (l.length + 1) c 33 := ⟨_, rfl⟩
  have hC1 : l.length + 1 ≤ C := by rw [hC]; exact grownCap_ge w _ _ _
  have hC2 : C ≤ maxLen := by rw [hC]; exact grownCap_le_maxLen w _ _ _ (by unfold maxLen; omega)
  have hPg := grown_pl w.drew (l.take i) Z (l.length + 1) C (by rw [htl]; omega) hC1 hC2
  rw [← hC] at happ
  have hzc : (Value.agg zIt.toArray).cells = zIt.toArray := rfl
  rw [hzc] at happ
  obtain ⟨W0, hW0⟩ : ∃ W0, W0 = w.drew.alloc (.cells ((ics (l.take i)).toArray ++ Builtin.zeroCells zIt.toArray Z ++ Builtin.zeroCells zIt.toArray (C - (l.length + 1))) 33) := ⟨_, rfl⟩
  rw [← hW0] at happ hPg
  obtain ⟨D, hD⟩ : ∃ D, D = w.heap.size := ⟨_, rfl⟩
  rw [show w.drew.heap.size = w.heap.size from rfl, ← hD] at hPg
  rw [← hD] at happ
  have hb0 : Below w.heap.size w W0 := by rw [hW0]; exact Below.then (Below.drew (Below.refl w.heap.size w)) (abelow w.drew _)
  have hL0 : (l.take i ++ List.replicate Z noIt).length = l.length + 1 := by rw [List.length_append, List.length_replicate, htl]; omega
  -- the new one
  have hvb0 := hv.below hb0
  have hcp1 := fun ty dc => run_copy_its (P := Tryd.prog) W0 22 22 ty 33 i0 D (i * 8) (l.length + 1 - i) dc ⟨vb, 0, none⟩ 1 1 [x] Tryd.underlying22 hi0 hz1
    (by simp only [List.length_singleton, Nat.min_def]; split <;> omega)
    (fun j u hj => by rw [addr_plain, Nat.zero_add]; exact hvb0.cell (by simpa [ics] using hj))
    (fun j hj => hPg.isS (by rw [List.length_singleton] at hj; omega)) (fun j => hPg.fro _)
  have hP1 := hPg.lay i [x] (by omega) (by rw [List.length_singleton]; omega)
  obtain ⟨W1, hW1⟩ : ∃ W1, W1 = W0.setCells D (i * 8) (ics [x]) := ⟨_, rfl⟩
  rw [← hW1] at hcp1 hP1
  have hb1 : Below w.heap.size w W1 := by
    rw [hW1]
    exact hb0.trans ((only_setCells (b := D) (ics [x]) (i * 8) W0).below hb0.size (fun b hb => by omega))
  have e1 : (l.take i ++ List.replicate Z noIt).take i ++ [x] ++ (l.take i ++ List.replicate Z noIt).drop (i + [x].length) = l.take i ++ x :: List.replicate (Z - 1) noIt := by
    rw [List.length_singleton, List.take_left' htl, List.drop_append, List.drop_eq_nil_of_le (by omega), List.nil_append, htl, List.drop_replicate, List.append_assoc, show Z - (i + 1 - i) = Z - 1 by omega]; rfl
  rw [e1] at hP1
  have hP0 := hP.below hb1
  have hcp2 := fun ty dc sc => run_copy_its (P := Tryd.prog) W1.drew 22 22 ty 33 i0 D ((i + 1) * 8) (l.length - i) dc ⟨g, i * 8, none⟩ (l.length - i) sc (l.drop i) Tryd.underlying22 hi0 hz1
    (by rw [hdl]; simp only [Nat.min_def]; split <;> omega)
    (fun j u hj => by
      rw [addr_plain]
      have hj8 : j / 8 < (l.drop i).length := by have := (List.getElem?_eq_some_iff.1 hj).1; rw [ics_len] at this; omega
      obtain ⟨y, hy⟩ : ∃ y, (l.drop i)[j / 8]? = some y := ⟨_, List.getElem?_eq_getElem hj8⟩
      have hm8 : j % 8 < y.cells.length := by rw [cells_len]; omega
      have h1 := ics_at hy (List.getElem?_eq_getElem hm8)
      rw [show j / 8 * 8 + j % 8 = j by omega, hj] at h1
      rw [List.getElem?_drop] at hy
      have := hP0.at hy (j := j % 8) (u := u) (by rw [h1]; exact List.getElem?_eq_getElem hm8)
      rw [show i * 8 + j = (i + j / 8) * 8 + j % 8 by omega]; exact this)
    (fun j hj => hP1.isS (by rw [hdl] at hj; omega)) (fun j => hP1.fro _)
  have hL1 : (l.take i ++ x :: List.replicate (Z - 1) noIt).length = l.length + 1 := by rw [List.length_append, List.length_cons, List.length_replicate, htl]; omega
  have hP1d : Pl D C W1.drew (l.take i ++ x :: List.replicate (Z - 1) noIt) := hP1.only (D := fun _ => False) ((Only.refl _ _).drew) (fun h => h)
  have hP2 := hP1d.lay (i + 1) (l.drop i) (by omega) (by rw [hdl]; omega)
  have e2 : (l.take i ++ x :: List.replicate (Z - 1) noIt).take (i + 1) ++ l.drop i ++ (l.take i ++ x :: List.replicate (Z - 1) noIt).drop (i + 1 + (l.drop i).length) = l.take i ++ x :: l.drop i := by
    rw [show i + 1 + (l.drop i).length = l.length + 1 by omega, show (l.take i ++ x :: List.replicate (Z - 1) noIt).drop (l.length + 1) = [] from List.drop_eq_nil_of_le (by omega), List.append_nil, List.take_append, List.take_of_length_le (l := l.take i) (by omega), htl, show i + 1 - i = 1 by omega, List.append_assoc]; rfl
  rw [e2] at hP2
  have hlf : (l.take i ++ x :: l.drop i).length = l.length + 1 := by rw [List.length_append, List.length_cons, htl, hdl]; omega
  have hb2 : Below w.heap.size w (W1.drew.setCells D ((i + 1) * 8) (ics (l.drop i))) := (hb1.trans ((Below.refl _ _).drew)).trans ((only_setCells (b := D) (ics (l.drop i)) ((i + 1) * 8) W1.drew).below hb1.size (fun b hb => by omega))
  have hRf := hP2.rw (G := Gn G w (W1.drew.setCells D ((i + 1) * 8) (ics (l.drop i)))) (.inr ⟨by omega, hP2.lt⟩)
  rw [hlf] at hRf
  have HRf := hid hRf
  have HOf : Hid (Only G w (W1.drew.setCells D ((i + 1) * 8) (ics (l.drop i)))) := hid (Below.only hb2)
  obtain ⟨N, hN⟩ : ∃ N, N = l.length := ⟨_, rfl⟩
  rw [← hN] at happ hcp1 hcp2 HRf hlen hroom hi hC1 hZ hle ⊢
  have q1 : ¬ ((i : Int) = (N : Int)) := by omega
  have q1' : ((i : Int) == (N : Int)) = false := beq_eq_false_iff_ne.2 q1
  have q2 : IntKind.i64.wrap ((i : Int) + 1) = (i : Int) + 1 := by rw [IntKind.wrap_i64]; omega
  have q3 : (0 : Int) ≤ (i : Int) + 1 := by omega
  have q4 : ((i : Int) + 1).toNat = i + 1 := by omega
  have q5 : ¬ (C = i + 1) := by omega
  have q6 : (i : Int) ≤ (N : Int) + 1 := by omega
  have q7 : ¬ (c = i) := by omega
  have q8 : (0 : Int) ≤ (i : Int) := by omega
  have q9 : (i : Int) ≤ (N : Int) := by omega
  have q10 : (c : Int) < (N : Int) + 1 := by omega
  have q11 : IntKind.i64.wrap ((N : Int) + 1) = (N : Int) + 1 := by rw [IntKind.wrap_i64]; omega
  have q14 : (i : Int) + 1 ≤ (N : Int) + 1 := by omega
  have q16 : (i : Int) ≤ (c : Int) := by omega
  have q17 : ¬ (C = i) := by omega
  have q18 : (N : Int) + 1 - (i : Int) = (Z : Int) := by omega
  have q19 : IntKind.i64.wrap (Z : Int) = (Z : Int) := by rw [IntKind.wrap_i64]; omega
  clear hP1 hW1 hb0 hb1 hb2 e1 hP2 e2 hlf hRf hN hdl hPg hP hW0 hC hD hP0 hP1d hL0 hL1 hvb0 hzc hsrc0 htl hC1 hC2 hZ
  go_enter Tryd.func78, Tryd.ntmps78
  go_wp2_with (at_builtin; first | (refine wpList_append_run _ rfl _ _ 22 3 rfl _ _ rfl rfl _ _ (happ _) ?_) | (refine wpList_copy_runI _ rfl _ _ 22 22 rfl _ _ rfl rfl (hcp1 _ _) ?_))
  go_region_law (refine step_copy_runI rfl _ _ 22 22 rfl _ _ (by simp [Act.eval, Act.put]) (by simp [Act.eval, Act.put]) (hcp2 _ _ _) ?_)
  go_wp2_with fail
  go_ret
  exact ⟨_, rfl, HRf.out, HOf.out⟩
/-- Insert of one, wherever. -/
theorem insert_any (hR : Rw G w v l) (hlen : l.length ≤ 4194304) (i : Nat) (hi : i ≤ l.length) (x : It) (vb : Nat) (hv : Blk w vb 33 x.cells) (hne : ¬ G vb) :
    Calls Tryd.prog 78 #[v, .int .i64 i, .slice (some ⟨vb, 0, none⟩) 1 1] w fun e w' => ∃ v', e = .returned v' ∧ Rw (Gn G w w') w' v' (l.take i ++ x :: l.drop i) ∧ Only G w w' := by
  by_cases he : i = l.length
  · subst he
    rw [List.take_of_length_le (Nat.le_refl _), List.drop_eq_nil_of_le (Nat.le_refl _)]
    exact insert_end hR hlen x vb (fun j u hj => hv.cell hj)
  · rcases hR.pl with ⟨rfl, rfl⟩ | ⟨g, c, rfl, hg, hP⟩
    · simp at he hi; omega
    · by_cases hr : l.length + 1 ≤ c
      · refine (insert_shift g c hP hg hlen hr i (by omega) x vb hv (fun e => hne (by rw [e]; exact hg))).mono ?_
        rintro e w' ⟨v', rfl, h1, h2⟩
        exact ⟨v', rfl, h1.mono (fun b hb => .inl hb), h2⟩
      · exact insert_grow g c hP hlen (by omega) i (by omega) x vb hv
end
end Go.Proofs.YtpgljahomeebhaaDoor.Md
