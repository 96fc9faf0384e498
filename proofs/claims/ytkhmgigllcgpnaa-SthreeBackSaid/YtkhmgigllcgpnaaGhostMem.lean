/-
  How a ghost's numbers lie in memory: the map from numbers to marks, the ring of marks that begins and ends at the edge; what turns of it and what stays. No program is run in it. No conditions.
-/
import Derived.Test.YtkhmgigllcgpnaaM3
import Derived.Maps.OwnSet
import Derived.Carry
namespace Go.Proofs.Ytkhmgigllcgpnaa.Gh
open Go Go.RowKit Go.Lib

/-! A map from numbers to marks -/
def ptrV : Option Nat → Value
  | none => .pointer none
  | some b => .pointer (some ⟨b, 0, none⟩)
def ptrD : Option Nat → DataW Unit
  | none => .nil
  | some b => .lit (.int .i64 b)
def ptrElem : Value → Option (DataW Unit × List MemPlace)
  | .pointer none => some (.nil, [])
  | .pointer (some ⟨b, 0, none⟩) => some (.lit (.int .i64 b), [])
  | _ => none
theorem ptrElem_mk (o : Option Nat) : ptrElem (ptrV o) = some (ptrD o, []) := by cases o <;> rfl
theorem ptrElem_inv {v : Value} {o : Option Nat} {ps : List MemPlace} (h : ptrElem v = some (ptrD o, ps)) : v = ptrV o := by
  unfold ptrElem at h
  split at h
  · cases o with
    | none => rfl
    | some b => simp [ptrD] at h
  · rename_i b
    cases o with
    | none => simp [ptrD] at h
    | some c =>
      simp [ptrD] at h
      obtain ⟨h1, _⟩ := h
      have h1' : b = c := by omega
      rw [h1']; rfl
  · cases h

theorem keyU64 : Maps.Keyed Try.prog 29 := Maps.int_keyed Try.underlying29
theorem underMap : Try.prog.underlying 82 = some (.map 29 83) := Try.underlying82
theorem zeroMark (w : World) : (zeroValue 83).run Try.prog w = .ok (.pointer none) w := by kernel_rfl
def u64ok (z : Int) : Prop := 0 ≤ z ∧ z ≤ 18446744073709551615
theorem wf_of {z : Int} (h : u64ok z) : (Lit.int .u64 z).wf = true := WalkArith.wf_u64 h
theorem key_of {z : Int} (h : u64ok z) : keyOf Try.prog 29 (.int .u64 z) = some (.int .u64 z) := Maps.keyOf_int_mk Try.underlying29 (wf_of h)

def updF (f : Int → Option Nat) (z : Int) (o : Option Nat) : Int → Option Nat := fun y => if y = z then o else f y
theorem updF_same (f : Int → Option Nat) (z : Int) (o : Option Nat) : updF f z o z = o := if_pos rfl
theorem updF_other {f : Int → Option Nat} {y z : Int} (h : y ≠ z) (o : Option Nat) : updF f z o y = f y := if_neg h
/-- Block b is a map of c entries that tells f. -/
def PM (w : World) (b c : Nat) (f : Int → Option Nat) : Prop :=
  ∃ D : DataW Unit, w.ownsMap Try.prog 29 ptrElem b c D ∧ Maps.size D = c ∧ ∀ z, u64ok z → D.atKey (.int .u64 z) .nil = ptrD (f z) ∧ Maps.has D (.int .u64 z) = (f z).isSome
theorem PM.lt {w : World} {b c : Nat} {f : Int → Option Nat} (h : PM w b c f) : b < w.heap.size := by obtain ⟨D, h, _⟩ := h; exact h.lt
theorem PM.keep {w w' : World} {b c : Nat} {f : Int → Option Nat} (h : PM w b c f) (hb : w'.heap[b]? = w.heap[b]?) : PM w' b c f := by
  obtain ⟨D, ⟨es, clock, h1, h2⟩, h3⟩ := h
  exact ⟨D, ⟨es, clock, hb.trans h1, h2⟩, h3⟩
theorem PM.new (w : World) : PM (w.alloc (.map #[] 0)) w.heap.size 0 (fun _ => none) :=
  ⟨.map [], World.ownsMap_made w _ _ _, rfl, fun _ _ => ⟨rfl, rfl⟩⟩
/-- A look-up, as a run. -/
theorem PM.look {w : World} {b c : Nat} {f : Int → Option Nat} (h : PM w b c f) {z : Int} (hz : u64ok z) : (Instr.lookup 82 (.map (some b)) (.int .u64 z) false).run Try.prog w = .ok (ptrV (f z)) w := by
  obtain ⟨D, h, _, hk⟩ := h
  obtain ⟨v, ps, hr, hv⟩ := h.lookup keyU64 underMap (zeroMark w) (ptrElem_mk none) (key_of hz)
  have e : D.atKey (.int .u64 z) (ptrD none) = ptrD (f z) := (hk z hz).1
  rw [e] at hv
  rw [hr, ptrElem_inv hv]
theorem sz_exact {w : World} {b n : Nat} {D : DataW Unit} (h : w.ownsMap Try.prog 29 ptrElem b n D) : w.ownsMap Try.prog 29 ptrElem b (Maps.size D) D := by
  obtain ⟨es, clock, h1, F, h2, rfl⟩ := h
  refine ⟨es, clock, h1, F, ?_, rfl⟩
  rw [Maps.size_eq, length_sorted]; simp
theorem lit_ne {x z : Int} (h : x ≠ z) : (Lit.int .u64 x) ≠ .int .u64 z := fun e => h (by injection e)
/-- A store of a new key. -/
theorem PM.put {w : World} {b c : Nat} {f : Int → Option Nat} (h : PM w b c f) {z : Int} (hz : u64ok z) (hf : f z = none) (hc : c ≤ 4194304) (x : Nat) :
    ∃ w', (Instr.mapUpdate 82 (.map (some b)) (.int .u64 z) (.pointer (some ⟨x, 0, none⟩))).run Try.prog w = .ok () w' ∧ PM w' b (c + 1) (updF f z (some x)) ∧ w.mapTurned w' b := by
  obtain ⟨D, h, hs, hk⟩ := h
  obtain ⟨w', hr, h1, h2⟩ := h.store (val := .pointer (some ⟨x, 0, none⟩)) keyU64 underMap (by unfold maxLen; omega) (key_of hz) (ptrElem_mk (some x))
  have hno : Maps.has D (.int .u64 z) = false := by rw [(hk z hz).2, hf]; rfl
  have hsz : Maps.size (D.put (.int .u64 z) (ptrD (some x))) = c + 1 := by rw [Maps.size_put (h.tidy keyU64), hno, hs]; rfl
  refine ⟨w', hr, ⟨_, hsz ▸ sz_exact h1, hsz, fun y hy => ?_⟩, h2⟩
  by_cases e : y = z
  · subst e
    rw [updF_same]
    exact ⟨Maps.atKey_put_same h.isMap (k := .int .u64 y) trivial _ _, Maps.has_put_same h.isMap (k := .int .u64 y) trivial _⟩
  · rw [updF_other e, Maps.atKey_put_other (lit_ne e), Maps.has_put_other (lit_ne e)]
    exact hk y hy
theorem PM.del {w : World} {b c : Nat} {f : Int → Option Nat} (h : PM w b (c + 1) f) {z : Int} (hz : u64ok z) (hf : f z ≠ none) (ty : TypeId) :
    ∃ w', (Builtin.delete_ #[82, 29] ty #[.map (some b), .int .u64 z]).run Try.prog w = .ok (.tuple #[]) w' ∧ PM w' b c (updF f z none) ∧ w.mapTurned w' b := by
  obtain ⟨D, h, hs, hk⟩ := h
  obtain ⟨w', hr, h1, h2⟩ := h.drop keyU64 underMap (key_of hz) ty
  have hyes : Maps.has D (.int .u64 z) = true := by
    rw [(hk z hz).2]
    cases e : f z with
    | none => exact absurd e hf
    | some _ => rfl
  have hsz : Maps.size (D.del (.int .u64 z)) = c := by
    have := Maps.size_del (k := .int .u64 z) (h.tidy keyU64)
    rw [hyes, hs] at this
    simpa using this
  refine ⟨w', hr, ⟨_, hsz ▸ sz_exact h1, hsz, fun y hy => ?_⟩, h2⟩
  by_cases e : y = z
  · subst e
    rw [updF_same, Maps.atKey_del_same, Maps.has_del_same]
    exact ⟨rfl, rfl⟩
  · rw [updF_other e, Maps.atKey_del_other (lit_ne e), Maps.has_del_other (lit_ne e)]
    exact hk y hy

/-- Its length, as a run. -/
theorem PM.size {w : World} {b c : Nat} {f : Int → Option Nat} (h : PM w b c f) (ty : TypeId) : (Builtin.len_ #[82] ty #[.map (some b)]).run Try.prog w = .ok (.int .i64 c) w := by
  obtain ⟨D, h, hs, _⟩ := h
  rw [h.len underMap ty, hs]

/-! At the operation, for the walk -/
section
variable {w : World} {ops : Array Oper} {rest : List Oper} {o : Oper} {a : Act} {Q : Exit → Act → World → Prop}
theorem wpList_pm_put (hg : o.guard = none) (m x v : Operand) (hop : o.op = Op.mapUpdate 82 m x v) {b c : Nat} {f : Int → Option Nat} (hm : a.eval m = .map (some b)) (h : Hid (PM w b c f))
    {z : Int} (hx : a.eval x = .int .u64 z) {y : Nat} (hv : a.eval v = .pointer (some ⟨y, 0, none⟩)) (hz : Hid (u64ok z ∧ f z = none ∧ c ≤ 4194304))
    (hK : ∀ w', Hid (PM w' b (c + 1) (updF f z (some y))) → Hid (w.mapTurned w' b) → wpList Try.prog ops Q rest (a.put o.dst undef) w') : wpList Try.prog ops Q (o :: rest) a w := by
  refine wpList_plain hg fun K' hK' => ?_
  obtain ⟨w', hrun, r1, r2⟩ := h.out.put hz.out.1 hz.out.2.1 hz.out.2.2 y
  unfold Oper.wp
  simp [execOp, hop, hm, hx, hv, hrun, Result.andThen]
  exact hK' _ _ (hK w' (hid r1) (hid r2))
theorem wpList_pm_del (hg : o.guard = none) (m x : Operand) (hop : o.op = Op.call { callee := Callee.builtin Builtin.delete, args := #[m, x], argTypes := #[82, 29] }) {b c : Nat} {f : Int → Option Nat} (hm : a.eval m = .map (some b)) (h : Hid (PM w b (c + 1) f))
    {z : Int} (hx : a.eval x = .int .u64 z) (hz : Hid (u64ok z ∧ f z ≠ none))
    (hK : ∀ w', Hid (PM w' b c (updF f z none)) → Hid (w.mapTurned w' b) → wpList Try.prog ops Q rest (a.put o.dst (.tuple #[])) w') : wpList Try.prog ops Q (o :: rest) a w := by
  refine wpList_plain hg fun K' hK' => ?_
  obtain ⟨w', hrun, r1, r2⟩ := h.out.del hz.out.1 hz.out.2 o.type
  unfold Oper.wp
  simp [execOp, hop, resolve, invoke, builtin, hm, hx, hrun, Result.andThen]
  exact hK' _ _ (hK w' (hid r1) (hid r2))
theorem wpList_pm_len (hg : o.guard = none) (m : Operand) (hop : o.op = Op.call { callee := Callee.builtin Builtin.len, args := #[m], argTypes := #[82] }) {b c : Nat} {f : Int → Option Nat} (hm : a.eval m = .map (some b)) (h : Hid (PM w b c f))
    (hK : wpList Try.prog ops Q rest (a.put o.dst (.int .i64 c)) w) : wpList Try.prog ops Q (o :: rest) a w := by
  refine wpList_plain hg fun K' hK' => ?_
  unfold Oper.wp
  simp [execOp, hop, resolve, invoke, builtin, hm, h.out.size o.type, Result.andThen]
  exact hK' _ _ hK
end

/-! Cells that are the same -/
/-- A block of cells, none frozen. -/
def Plain (w : World) (b : Nat) : Prop := ∃ t cs, Blk w b t cs
theorem Plain.frozen {w : World} {b : Nat} (h : Plain w b) (k : Nat) : w.frozen? ⟨b, k, none⟩ = false := by obtain ⟨t, cs, h⟩ := h; exact h.frozen k
theorem Plain.keep {w w' : World} {b : Nat} (h : Plain w b) (e : w'.heap[b]? = w.heap[b]?) : Plain w' b := by obtain ⟨t, cs, h⟩ := h; exact ⟨t, cs, e.trans h⟩
theorem Plain.set {w : World} {b : Nat} (h : Plain w b) (p : Addr) (u : Value) : Plain (w.setCell p u) b := by
  by_cases e : b = p.block
  · subst e
    obtain ⟨t, cs, h⟩ := h
    have hlt := h.lt
    have hv : w.heap[p.block] = .cells cs.toArray t (0, 0) := (Array.getElem?_eq_some_iff.1 h).2
    refine ⟨t, (if p.spot.isSome then cs.toArray else cs.toArray.setIfInBounds p.off u).toList, ?_⟩
    unfold Blk World.setCell
    rw [Array.getElem?_eq_getElem (by simpa using hlt), Array.getElem_modify]
    simp [hv]
  · exact h.keep (Below.heap_setCell w p u b e)
/-- Of the cells that were there only those of S may have turned; none froze. -/
structure Same (S : Addr → Prop) (w w' : World) : Prop where
  size : w.heap.size ≤ w'.heap.size
  cell : ∀ a, a.block < w.heap.size → ¬ S a → w'.cell? a = w.cell? a
  plain : ∀ b, b < w.heap.size → Plain w b → Plain w' b
theorem Same.refl (S : Addr → Prop) (w : World) : Same S w w := ⟨Nat.le_refl _, fun _ _ _ => rfl, fun _ _ h => h⟩
theorem Same.trans {S : Addr → Prop} {a b c : World} (h : Same S a b) (k : Same S b c) : Same S a c :=
  ⟨Nat.le_trans h.size k.size, fun x hx hs => (k.cell x (Nat.lt_of_lt_of_le hx h.size) hs).trans (h.cell x hx hs), fun x hx hp => k.plain x (Nat.lt_of_lt_of_le hx h.size) (h.plain x hx hp)⟩
theorem Same.drew {S : Addr → Prop} {a b : World} (h : Same S a b) : Same S a b.drew := ⟨h.size, h.cell, h.plain⟩
theorem Same.set {S : Addr → Prop} (w : World) (a : Addr) (v : Value) (hS : S a) : Same S w (w.setCell a v) :=
  ⟨by simp [World.setCell], fun x _ hs => World.cell?_setCell_other _ _ _ _ (fun (e : a = x) => hs (e ▸ hS)), fun _ _ hp => hp.set a v⟩
theorem Same.below {S : Addr → Prop} {w w' : World} (h : Below w.heap.size w w') : Same S w w' :=
  ⟨h.size, fun _ hx _ => h.cell hx, fun b hb hp => hp.keep (h.block b hb)⟩
theorem Same.map {S : Addr → Prop} {w w' : World} {b : Nat} (h : w.mapTurned w' b) (hS : ∀ a, a.block = b → S a) : Same S w w' := by
  refine ⟨h.grown.size, fun x hx hs => World.cell?_of_block (h.grown.block x.block hx (fun e => hs (hS x (Option.some.inj e)))), fun x hx hp => ?_⟩
  by_cases e : x = b
  · subst e
    obtain ⟨es, cl, _, _, hm, _⟩ := h
    obtain ⟨t, cs, hp⟩ := hp
    have hp' : w.heap[x]? = some (.cells cs.toArray t (0, 0)) := hp
    rw [hm] at hp'; cases hp'
  · exact hp.keep (h.grown.block x hx (fun e1 => e (Option.some.inj e1)))
theorem Only.map {D : Nat → Prop} {w w' : World} {b : Nat} (h : w.mapTurned w' b) (hD : D b) : Only D w w' :=
  ⟨h.grown.os, h.grown.tape, h.grown.output, h.grown.size, fun k hk hd => h.grown.block k hk (fun e => hd (Option.some.inj e ▸ hD))⟩

/-! Points and rings -/
structure Pt where
  b : Nat
  o : Nat
structure Nd where
  id : Int
  b : Nat
def Pt.at_ (p : Pt) (k : Nat) : Addr := ⟨p.b, p.o + k, none⟩
def Pt.v (p : Pt) : Value := .pointer (some ⟨p.b, p.o, none⟩)
def Nd.pt (x : Nd) : Pt := ⟨x.b, 0⟩
def edge (P : Nat) : Pt := ⟨P, 1⟩
theorem at_ne {p q : Pt} (h : p.b ≠ q.b) (k j : Nat) : p.at_ k ≠ q.at_ j := fun e => h (congrArg Addr.block e)
theorem at_ne' (p : Pt) {k j : Nat} (h : k ≠ j) : p.at_ k ≠ p.at_ j := fun e => h (by have := congrArg Addr.off e; simp [Pt.at_] at this; exact this)

def Seq (w : World) : List Pt → Prop
  | p :: q :: r => w.cell? (p.at_ 2) = some q.v ∧ w.cell? (q.at_ 1) = some p.v ∧ Seq w (q :: r)
  | _ => True
theorem Seq.frame {w w' : World} : ∀ {s : List Pt}, Seq w s → (∀ p ∈ s.dropLast, w'.cell? (p.at_ 2) = w.cell? (p.at_ 2)) → (∀ q ∈ s.tail, w'.cell? (q.at_ 1) = w.cell? (q.at_ 1)) → Seq w' s
  | [], _, _, _ => trivial
  | [_], _, _, _ => trivial
  | p :: q :: r, ⟨h1, h2, h3⟩, k1, k2 => by
    refine ⟨(k1 p (by simp [List.dropLast])).trans h1, (k2 q (by simp)).trans h2, Seq.frame h3 (fun x hx => k1 x ?_) (fun x hx => k2 x ?_)⟩
    · rw [List.dropLast_cons_cons]; exact List.mem_cons_of_mem _ hx
    · exact List.mem_cons_of_mem _ (by simpa using hx)
theorem Seq.split {w : World} : ∀ {s : List Pt} {u v : Pt} {t : List Pt}, Seq w (s ++ u :: v :: t) ↔ Seq w (s ++ [u]) ∧ (w.cell? (u.at_ 2) = some v.v ∧ w.cell? (v.at_ 1) = some u.v) ∧ Seq w (v :: t)
  | [], u, v, t => by simp only [List.nil_append, Seq, and_assoc, true_and]
  | [p], u, v, t => by simp only [List.cons_append, List.nil_append, Seq, and_assoc, true_and]
  | p :: q :: s, u, v, t => by
    have ih := Seq.split (w := w) (s := q :: s) (u := u) (v := v) (t := t)
    simp only [List.cons_append, Seq] at ih ⊢
    rw [ih]
    simp only [and_assoc]
/-- The last point of a, or e; the first point of b, or e. -/
def lst (e : Pt) (a : List Pt) : Pt := a.getLast?.getD e
def fst (e : Pt) (b : List Pt) : Pt := b.head?.getD e
theorem lst_split (e : Pt) (a : List Pt) : e :: a = (e :: a).dropLast ++ [lst e a] := by
  have h := (List.dropLast_concat_getLast (l := e :: a) (by simp)).symm
  have e2 : (e :: a).getLast (by simp) = lst e a := by
    unfold lst
    cases a with
    | nil => rfl
    | cons x a => rw [List.getLast_cons (by simp), List.getLast?_eq_some_getLast (by simp)]; rfl
  rw [e2] at h; exact h
theorem fst_split (e : Pt) (b : List Pt) : b ++ [e] = fst e b :: (b ++ [e]).tail := by
  cases b with
  | nil => rfl
  | cons x b => rfl
theorem ring_split (e : Pt) (a b : List Pt) : e :: (a ++ b) ++ [e] = (e :: a).dropLast ++ lst e a :: fst e b :: (b ++ [e]).tail := by
  rw [← fst_split, List.append_cons (e :: a).dropLast, ← lst_split, ← List.cons_append, List.append_assoc]
theorem lst_mem (e : Pt) (a : List Pt) : lst e a = e ∨ lst e a ∈ a := by
  unfold lst
  cases h : a.getLast? with
  | none => exact .inl rfl
  | some x => exact .inr (List.mem_of_getLast? h)
theorem fst_mem (e : Pt) (b : List Pt) : fst e b = e ∨ fst e b ∈ b := by
  cases b with
  | nil => exact .inl rfl
  | cons x b => exact .inr (List.mem_cons_self ..)
theorem fst_cons (e x : Pt) (b : List Pt) : fst e (x :: b) = x := rfl
theorem lst_snoc (e x : Pt) (a : List Pt) : lst e (a ++ [x]) = x := by unfold lst; simp
theorem drop_sub (e : Pt) (a : List Pt) : ∀ p ∈ (e :: a).dropLast, p ∈ e :: a := fun _ h => (List.dropLast_sublist _).mem h
end Go.Proofs.Ytkhmgigllcgpnaa.Gh
